/-
  The walk of MemberHears.
-/
import Derived.Test.YtccldbophonloaaBSame
import Derived.Deep.Cut
namespace Go.Proofs.Ytccldbophonloaa
open Go Go.RowKit

theorem memsO_one {f : Nat → Option Mem} {s : Nat} {m : Mem} (h : ∀ k, f k = if k = s then some m else none) : ∀ (c a : Nat), memsO f a c = if a ≤ s ∧ s < a + c then [m] else []
  | 0, a => by rw [if_neg (by omega)]; rfl
  | c + 1, a => by
    rw [memsO_succ, memsO_one h c (a + 1), h a]
    by_cases ha : a = s
    · subst ha
      rw [if_pos rfl, if_neg (by omega), if_pos (by omega)]
      rfl
    · rw [if_neg ha]
      by_cases h1 : a + 1 ≤ s ∧ s < a + 1 + c
      · rw [if_pos h1, if_pos (by omega)]
        rfl
      · rw [if_neg h1, if_neg (by omega)]
        rfl
theorem memsB_new {s : Nat} (h : s < 64) : memsB (newB s) = [⟨(s : Int), 0, 0⟩] := by
  unfold memsB
  rw [memsO_one (f := (newB s).f) (s := s) (m := ⟨(s : Int), 0, 0⟩) (fun k => rfl), if_pos (by omega)]
/-- What is there while a table and the reference's hear the same. -/
structure HSt (W wr : World) (s B : Nat) (T : Tb) (a : Option Addr) (n c : Nat) : Prop where
  ok : TbOk T
  me : T.s = s
  tab : TabBlk wr W.heap.size T
  box : RtB wr B (s : Int) a n c
  len : n = (memsB T).length
  mems : MemsAt wr a (memsB T)
  sep : ∀ q, a = some q → W.heap.size < q.block ∧ q.block ≠ B
  lt : W.heap.size < B
  below : Below W.heap.size W wr
theorem HSt.on {W wr u : World} {s B : Nat} {T : Tb} {a : Option Addr} {n c : Nat} (h : HSt W wr s B T a n c) (q : Below wr.heap.size wr u) : HSt W u s B T a n c :=
  ⟨h.ok, h.me, h.tab.on q, h.box.on q, h.len, h.mems.on q, h.sep, h.lt, h.below.trans (q.mono h.below.size)⟩

set_option maxRecDepth 100000 in
set_option maxHeartbeats 16000000 in
theorem hears_walk (me : Nat) (a : Option Addr) (c n : Nat) (l : List Mem) (kn : Nat) (W : World) (hM : MemsAt W a l) (hF : FitM l) (hn : n = l.length) :
    Calls Try.prog 3 #[.int .u16 (me : Int), .slice a n c, .int .u16 (kn : Int)] W fun e w' => e = .returned (.bool true) ∧ Below W.heap.size W w' := by
  have HAw := Lib.hid (fun u => bawake_any u)
  by_cases h200 : n ≤ 200
  case neg =>
    have hgt : (200 : Int) < (n : Int) := by omega
    go_enter Try.func3, Try.ntmps3
    go_wp2_with (go_at_call 9; refine (HAw.out _).mono ?_; rintro e w1 ⟨rfl, q1⟩; replace q1 := Lib.hid q1; refine Hid.out ?_)
    refine Lib.hid ?_
    go_wp2
    go_ret
    exact ⟨rfl, q1.out⟩
  have hgt : ¬ (200 : Int) < (n : Int) := by omega
  have HN := Lib.hid hn
  have HM := Lib.hid hM
  have HF := Lib.hid hF
  clear hn hM hF
  have HNw := Lib.hid (bNew_any me W)
  have HRn := Lib.hid (fun u => brNew_any me u)
  obtain ⟨s, hs⟩ : ∃ s, me % 64 = s := ⟨_, rfl⟩
  rw [hs] at HNw HRn
  have hs64 : s < 64 := by omega
  replace hs := Lib.hid hs
  go_enter Try.func3, Try.ntmps3
  go_wp2_with (go_at_call 10; refine HNw.out.mono ?_; rintro e w1 ⟨rfl, t1, q1⟩; replace t1 := Lib.hid t1; replace q1 := Lib.hid q1; refine Hid.out ?_)
  refine Lib.hid ?_
  go_wp2_with (go_at_call 11; refine (HRn.out _).mono ?_; rintro e w2 ⟨b2, rfl, m2, hb2, q2⟩; replace m2 := Lib.hid m2; replace hb2 := Lib.hid hb2; replace q2 := Lib.hid q2; refine Hid.out ?_)
  refine Lib.hid ?_
  have HS0 : Hid (HSt W (w2.alloc (.cells #[.int .u16 (s : Int), .slice (some ⟨b2, 0, none⟩) 1 1] 28)) s w2.heap.size (newB s) (some ⟨b2, 0, none⟩) 1 1) := Lib.hid (by
    have d3 := (Below.refl w2.heap.size w2).alloc (Nat.le_refl _) (.cells #[.int .u16 (s : Int), .slice (some ⟨b2, 0, none⟩) 1 1] 28)
    have h1 := t1.out.lt
    have h2 := q2.out.size
    have h3 := hb2.out
    have h4 := m2.out.ltB (by simp) _ rfl
    dsimp only at h4
    refine ⟨newB_ok hs64, rfl, (t1.out.on q2.out).on d3, RtB.new w2 (s : Int) _ 1 1, by rw [memsB_new hs64]; rfl, by rw [memsB_new hs64]; exact m2.out.on d3, fun q e => ?_, by omega, q1.out.trans ((q2.out.trans (d3.mono q2.out.size)).mono q1.out.size)⟩
    obtain rfl := Option.some.inj e
    dsimp only
    omega)
  clear HNw HRn t1 q1 m2 hb2 q2
  go_wp2_with fail
  generalize w2.alloc (.cells #[.int .u16 (s : Int), .slice (some ⟨b2, 0, none⟩) 1 1] 28) = W3 at *
  generalize w2.heap.size = B8 at *
  go_wp2
  go_loopw [9] (fun x wr => ∃ (i : Nat), i ≤ n ∧ x = .int .i64 (i : Int) ∧ Hid (∃ T a8 n8 c8, HSt W wr s B8 T a8 n8 c8)) (fun x _ => n - (intOf x).toNat)
  case atStart => exact ⟨0, Nat.zero_le _, rfl, Lib.hid ⟨_, _, _, _, HS0.out⟩⟩
  case round =>
    clear HS0
    obtain ⟨i, hi, rfl, HE⟩ := hrel
    obtain ⟨T, a8, n8, c8, hst⟩ := HE.out
    have HS := Lib.hid hst
    clear hst HE
    have HSa := Lib.hid (fun (u : World) (T : Tb) (a : Option Addr) (n c : Nat) (h : HSt W u s B8 T a n c) => by have := bsame_any W.heap.size T h.ok a n c kn u h.tab h.mems h.len; rwa [h.me] at this)
    by_cases hlt : i < n
    case neg =>
      have hkl : ¬ (i : Int) < (n : Int) := by omega
      have c0 := HS.out.box.c0; have c1 := HS.out.box.c1
      have HS1 := Lib.hid (HSa.out wr T a8 n8 c8 HS.out)
      go_wp2_with (go_at_call 14; refine HS1.out.mono ?_; rintro e w9 ⟨rfl, q9⟩; replace q9 := Lib.hid q9; refine Hid.out ?_)
      refine Lib.hid ?_
      go_wp2_with (go_at_call 9; refine (HAw.out _).mono ?_; rintro e wa ⟨rfl, qa⟩; replace qa := Lib.hid qa; refine Hid.out ?_)
      refine Lib.hid ?_
      have HE := Lib.hid ((HS.out.on q9.out).on qa.out).below
      go_wp2
      go_ret
      exact ⟨rfl, HE.out⟩
    have hkl : (i : Int) < (n : Int) := by omega
    have hkx : i < l.length := by have := HN.out; omega
    obtain ⟨ba, oa, rfl, hba, hd⟩ := HM.out.cells i hkx
    have HC : Hid (∀ u, Below W.heap.size W u → u.cell? ⟨ba, oa + i * 3, none⟩ = some (.int .u16 l[i].n) ∧ u.cell? ⟨ba, oa + i * 3 + 1, none⟩ = some (.int .u8 l[i].s) ∧ u.cell? ⟨ba, oa + i * 3 + 2, none⟩ = some (.int .i64 l[i].i)) := Lib.hid (fun u hu => ⟨(hu.cell (p := ⟨ba, oa + i * 3, none⟩) hba).trans hd.1, (hu.cell (p := ⟨ba, oa + i * 3 + 1, none⟩) hba).trans hd.2.1, (hu.cell (p := ⟨ba, oa + i * 3 + 2, none⟩) hba).trans hd.2.2⟩)
    have HPr : Hid (∀ j, i = j + 1 → ∃ m : Mem, ∀ u, Below W.heap.size W u → u.cell? ⟨ba, oa + j * 3, none⟩ = some (.int .u16 m.n) ∧ u.cell? ⟨ba, oa + j * 3 + 1, none⟩ = some (.int .u8 m.s) ∧ u.cell? ⟨ba, oa + j * 3 + 2, none⟩ = some (.int .i64 m.i)) := Lib.hid (fun j hj => by
      have hjx : j < l.length := by omega
      obtain ⟨bb, ob, e, hbb, hd2⟩ := HM.out.cells j hjx
      obtain ⟨rfl, rfl⟩ : ba = bb ∧ oa = ob := by cases e; exact ⟨rfl, rfl⟩
      exact ⟨l[j], fun u hu => ⟨(hu.cell (p := ⟨ba, oa + j * 3, none⟩) hba).trans hd2.1, (hu.cell (p := ⟨ba, oa + j * 3 + 1, none⟩) hba).trans hd2.2.1, (hu.cell (p := ⟨ba, oa + j * 3 + 2, none⟩) hba).trans hd2.2.2⟩⟩)
    have HFk := Lib.hid (HF.out l[i] (List.getElem_mem hkx))
    generalize l[i] = m at *
    obtain ⟨mn, ms, mi⟩ := m
    dsimp only at HC HFk
    clear hkx hba hd
    obtain ⟨d0, d1, d2⟩ := HC.out wr HS.out.below
    have HHe := Lib.hid (bHear_any W.heap.size T ⟨mn, ms, mi⟩ HFk.out.1 wr HS.out.tab)
    unfold HearPost at HHe
    dsimp only at HHe
    have HOkT := Lib.hid HS.out.ok
    have HMeT := Lib.hid HS.out.me
    have HOk2 : Hid (TbOk (hearB T ⟨mn, ms, mi⟩) ∧ (hearB T ⟨mn, ms, mi⟩).s = s) := Lib.hid ⟨hearB_ok HS.out.ok (m := ⟨mn, ms, mi⟩) HFk.out.1 HFk.out.2, (hearB_s _ _).trans HS.out.me⟩
    have HHr := Lib.hid (fun (u : World) (hu : MemsAt u a8 (memsB T)) => by have := brHear_any a8 n8 c8 T HS.out.ok ⟨mn, ms, mi⟩ HFk.out.1 u hu HS.out.len; rwa [HS.out.me] at this)
    obtain ⟨dM, hdM⟩ : ∃ d, d = heardM T ⟨mn, ms, mi⟩ := ⟨_, rfl⟩
    rw [← hdM] at HHe
    replace hdM := Lib.hid hdM
    obtain ⟨dn, ds, di⟩ := dM
    dsimp only at HHe
    go_wp2_with (go_at_call 12; refine HHe.out.mono ?_; rintro e w4 ⟨rfl, t4, g4⟩; replace t4 := Lib.hid t4; replace g4 := Lib.hid g4; refine Hid.out ?_)
    refine Lib.hid ?_
    have d5 := (Below.refl w4.heap.size w4).alloc (Nat.le_refl _) (.cells #[.int .u16 dn, .int .u8 ds, .int .i64 di] 32)
    have HR : Hid (TabBlk (w4.alloc (.cells #[.int .u16 dn, .int .u8 ds, .int .i64 di] 32)) W.heap.size (hearB T ⟨mn, ms, mi⟩) ∧ RtB (w4.alloc (.cells #[.int .u16 dn, .int .u8 ds, .int .i64 di] 32)) B8 (s : Int) a8 n8 c8 ∧ MemsAt (w4.alloc (.cells #[.int .u16 dn, .int .u8 ds, .int .i64 di] 32)) a8 (memsB T) ∧ (∀ q, a8 = some q → W.heap.size < q.block ∧ q.block ≠ B8) ∧ W.heap.size < B8 ∧ Below W.heap.size W (w4.alloc (.cells #[.int .u16 dn, .int .u8 ds, .int .i64 di] 32)) ∧ Mb (w4.alloc (.cells #[.int .u16 dn, .int .u8 ds, .int .i64 di] 32)) w4.heap.size ⟨dn, ds, di⟩ ∧ B8 < w4.heap.size) := Lib.hid (by
      have h := HS.out
      have hlt := h.lt
      have hg := g4.out
      refine ⟨t4.out.on d5, (h.box.kept hg (by simp; omega)).on d5, (h.mems.skip hg (fun q e => by have := (h.sep q e).1; omega)).on d5, h.sep, hlt, (h.below.grown hg h.below.size (fun j e => by cases e; exact Nat.le_refl _)).trans (d5.mono (Nat.le_trans h.below.size hg.size)), Mb.new w4 ⟨dn, ds, di⟩, Nat.lt_of_lt_of_le h.box.lt hg.size⟩)
    clear HHe t4 g4 d5 HS d0 d1 d2
    go_wp2_with fail
    generalize hwx : w4.alloc (.cells #[.int .u16 dn, .int .u8 ds, .int .i64 di] 32) = wx at *
    generalize w4.heap.size = b10 at *
    clear hwx
    obtain ⟨Nr, hNr⟩ : ∃ Nr, Nr = wx.heap.size := ⟨_, rfl⟩
    have HNe := Lib.hid hNr
    have HLp : Hid (0 < (memsB (hearB T ⟨mn, ms, mi⟩)).length) := Lib.hid (memsB_pos HOk2.out.1)
    have HA2 : Hid (∀ q, a8 = some q → q.block < Nr) := Lib.hid (by
      rw [hNr]
      intro q e
      by_cases h0 : 0 < (memsB T).length
      · exact HR.out.2.2.1.ltB h0 q e
      · exact absurd (memsB_pos HOkT.out) h0)
    have HHe : Hid (∀ u, Below Nr wx u → Calls Try.prog 13 #[.agg #[.int .u16 (s : Int), .slice a8 n8 c8], .agg #[.int .u16 mn, .int .u8 ms, .int .i64 mi]] u (HearRPost a8 T ⟨mn, ms, mi⟩ u)) := Lib.hid (fun u hu => HHr.out u (HR.out.2.2.1.on (hNr ▸ hu)))
    have HX : Hid (∀ u, Below Nr wx u → RtB u B8 (s : Int) a8 n8 c8 ∧ Below W.heap.size W u) := Lib.hid (fun u hu => ⟨HR.out.2.1.on (hNr ▸ hu), HR.out.2.2.2.2.2.1.trans (hu.mono (by rw [hNr]; exact HR.out.2.2.2.2.2.1.size))⟩)
    clear hNr
    apply code_join5 (HearEnd Nr wx a8 T ⟨mn, ms, mi⟩)
    · skip
      refine wp_region_any (by kernel_rfl) ?_
      change wpAny _ _ _ _ _ _ _ (World.drew _)
      have hS : (fun w' : World => Below Nr wx w') wx.drew := (Below.refl _ wx).drew
      refine wpAny_of_held (S := fun w' => Below Nr wx w') _ _ _ _ ?_
      refine wpAnyH_takeE (i := 0) (some 39) (v := ?_) rfl rfl (by as_aux_lemma => kernel_rfl) (by as_aux_lemma => kernel_rfl) (by as_aux_lemma => kernel_rfl) (fun _ _ _ h => h) (Or.inl ⟨by kernel_rfl, ?_⟩) hS ?_
      rotate_left
      · intro w hSw; have y0 := HX.out _ hSw; have c0 := y0.1.c0; have c1 := y0.1.c1; obtain ⟨d0, d1, d2⟩ := HC.out _ y0.2; clear y0; go_simp
        first | done | with_reducible rfl
      refine wpAnyH_takeE (i := 1) (some 40) (v := ?_) rfl rfl (by as_aux_lemma => kernel_rfl) (by as_aux_lemma => kernel_rfl) (by as_aux_lemma => kernel_rfl) (fun _ _ _ h => h) (Or.inl ⟨by kernel_rfl, ?_⟩) hS ?_
      rotate_left
      · intro w hSw; have y0 := HX.out _ hSw; have c0 := y0.1.c0; have c1 := y0.1.c1; obtain ⟨d0, d1, d2⟩ := HC.out _ y0.2; clear y0; go_simp
        first | done | with_reducible rfl
      refine wpAnyH_takeE (i := 2) (some 41) (v := ?_) rfl rfl (by as_aux_lemma => kernel_rfl) (by as_aux_lemma => kernel_rfl) (by as_aux_lemma => kernel_rfl) (fun _ _ _ h => h) (Or.inl ⟨by kernel_rfl, ?_⟩) hS ?_
      rotate_left
      · intro w hSw; have y0 := HX.out _ hSw; have c0 := y0.1.c0; have c1 := y0.1.c1; obtain ⟨d0, d1, d2⟩ := HC.out _ y0.2; clear y0; go_simp
        first | done | with_reducible rfl
      refine wpAnyH_takeE (i := 3) (some 42) (v := ?_) rfl rfl (by as_aux_lemma => kernel_rfl) (by as_aux_lemma => kernel_rfl) (by as_aux_lemma => kernel_rfl) (fun _ _ _ h => h) (Or.inl ⟨by kernel_rfl, ?_⟩) hS ?_
      rotate_left
      · intro w hSw; have y0 := HX.out _ hSw; have c0 := y0.1.c0; have c1 := y0.1.c1; obtain ⟨d0, d1, d2⟩ := HC.out _ y0.2; clear y0; go_simp
        first | done | with_reducible rfl
      refine wpAnyH_takeE (i := 4) (some 43) (v := ?_) rfl rfl (by as_aux_lemma => kernel_rfl) (by as_aux_lemma => kernel_rfl) (by as_aux_lemma => kernel_rfl) (fun _ _ _ h => h) (Or.inl ⟨by kernel_rfl, ?_⟩) hS ?_
      rotate_left
      · intro w hSw; have y0 := HX.out _ hSw; have c0 := y0.1.c0; have c1 := y0.1.c1; obtain ⟨d0, d1, d2⟩ := HC.out _ y0.2; clear y0; go_simp
        first | done | with_reducible rfl
      refine wpAnyH_ready (rs := [5, 10, 11]) (by as_aux_lemma => kernel_rfl) (by simp) ?_
      refine AllReadyH.cons rfl (fun K hK => ?_) (AllReadyH.cons rfl (fun K hK => ?_) (AllReadyH.cons rfl (fun K hK => ?_) AllReadyH.nil))
      · skip
        go_simp
        go_wp2_with (go_at_call 13; refine (HHe.out _ hS).mono ?_; rintro e u1 ⟨x8, n8, c8, rfl, hn, hx, hs0, qx⟩; replace hn := Lib.hid hn; replace qx := Lib.hid qx)
        have hs : ∀ q, x8 = some q → a8 = some q ∨ Nr ≤ q.block := fun q e => (hs0 q e).imp id (fun h => Nat.le_trans (Nat.le_trans (Nat.le_of_eq HNe.out) hS.size) h)
        refine hK.out _ _ ?_ (fun hS => ?_)
        · exact hS.trans (qx.out.mono (Nat.le_trans (Nat.le_of_eq HNe.out) hS.size))
        clear hK K hs0 qx
        refine wpAnyH_takeE (i := 6) (some 38) (v := ?_) rfl rfl (by as_aux_lemma => kernel_rfl) (by as_aux_lemma => kernel_rfl) (by as_aux_lemma => kernel_rfl) (fun _ _ _ h => h) (Or.inl ⟨by kernel_rfl, ?_⟩) hS ?_
        rotate_left
        · intro w hSw; skip; go_simp
          first | done | with_reducible rfl
        refine wpAnyH_takeE (i := 7) (some 45) (v := ?_) rfl rfl (by as_aux_lemma => kernel_rfl) (by as_aux_lemma => kernel_rfl) (by as_aux_lemma => kernel_rfl) (fun _ _ _ h => h) (Or.inl ⟨by kernel_rfl, ?_⟩) hS ?_
        rotate_left
        · intro w hSw; skip; go_simp
          first | done | with_reducible rfl
        refine wpAnyH_takeE (i := 8) (some 46) (v := ?_) rfl rfl (by as_aux_lemma => kernel_rfl) (by as_aux_lemma => kernel_rfl) (by as_aux_lemma => kernel_rfl) (fun _ _ _ h => h) (Or.inl ⟨by kernel_rfl, ?_⟩) hS ?_
        rotate_left
        · intro w hSw; skip; go_simp
          first | done | with_reducible rfl
        refine wpAnyH_takeE (i := 9) (some 47) (v := ?_) rfl rfl (by as_aux_lemma => kernel_rfl) (by as_aux_lemma => kernel_rfl) (by as_aux_lemma => kernel_rfl) (fun _ _ _ h => h) (Or.inl ⟨by kernel_rfl, ?_⟩) hS ?_
        rotate_left
        · intro w hSw; skip; go_simp
          first | done | with_reducible rfl
        refine wpAnyH_ready (rs := [10, 11]) (by as_aux_lemma => kernel_rfl) (by simp) ?_
        refine AllReadyH.cons rfl (fun K hK => ?_) (AllReadyH.cons rfl (fun K hK => ?_) AllReadyH.nil)
        · skip
          go_simp
          have dX : Below u1.heap.size u1 (u1.alloc (.cells #[.int .u16 0, .slice none 0 0] 28)) := (Below.refl u1.heap.size u1).alloc (Nat.le_refl _) (.cells #[.int .u16 0, .slice none 0 0] 28)
          have hb8 : Nr ≤ u1.heap.size := Nat.le_trans (Nat.le_of_eq HNe.out) hS.size
          refine hK.out _ _ (hS.trans (dX.mono (Nat.le_trans (Nat.le_of_eq HNe.out) hS.size))) (fun hS => ?_)
          clear hK K
          have ra : RtB (u1.alloc (.cells #[.int .u16 0, .slice none 0 0] 28)) u1.heap.size 0 none 0 0 := RtB.new u1 0 none 0 0
          have h1 : ∀ q, x8 = some q → q.block ≠ u1.heap.size := fun q e => Nat.ne_of_lt (hx.ltB HLp.out q e)
          replace hx := hx.on dX
          clear dX
          generalize hy : (u1.alloc (.cells #[.int .u16 0, .slice none 0 0] 28)) = u2 at *
          clear hy
          generalize hyb : u1.heap.size = b8 at *
          clear hyb
          refine wpAnyH_ready (rs := [11]) (by as_aux_lemma => kernel_rfl) (by simp) ?_
          refine AllReadyH.cons rfl (fun K hK => ?_) AllReadyH.nil
          go_simp
          have dX : Below u2.heap.size u2 (u2.alloc (.cells #[.int .u16 0, .int .u8 0, .int .i64 0] 32)) := (Below.refl u2.heap.size u2).alloc (Nat.le_refl _) (.cells #[.int .u16 0, .int .u8 0, .int .i64 0] 32)
          have hb9 : Nr ≤ u2.heap.size := Nat.le_trans (Nat.le_of_eq HNe.out) hS.size
          refine hK.out _ _ (hS.trans (dX.mono (Nat.le_trans (Nat.le_of_eq HNe.out) hS.size))) (fun hS => ?_)
          clear hK K
          have rb : Mb (u2.alloc (.cells #[.int .u16 0, .int .u8 0, .int .i64 0] 32)) u2.heap.size zM := Mb.new u2 zM
          have hne : b8 ≠ u2.heap.size := Nat.ne_of_lt ra.lt
          replace ra := ra.on dX
          have h2 : ∀ q, x8 = some q → q.block ≠ u2.heap.size := fun q e => Nat.ne_of_lt (hx.ltB HLp.out q e)
          replace hx := hx.on dX
          clear dX
          generalize hy : (u2.alloc (.cells #[.int .u16 0, .int .u8 0, .int .i64 0] 32)) = u3 at *
          clear hy
          generalize hyb : u2.heap.size = b9 at *
          clear hyb
          have hE := Lib.hid (HearEnd.mk (c := c8) ra rb hb8 hb9 hne hn.out hx hs h1 h2 hS)
          obtain ⟨w8, hw8⟩ : ∃ w8, w8 = stR u3 b8 (T.s : Int) x8 n8 c8 := ⟨_, rfl⟩
          obtain ⟨w9, hw9⟩ : ∃ w9, w9 = stM w8 b9 (heardM T ⟨mn, ms, mi⟩) := ⟨_, rfl⟩
          have HK1 : Hid (Below Nr wx w8) := Lib.hid (by rw [hw8]; exact stR_below hS hb8 _ _ _ _)
          have HK3 : Hid (Below Nr wx w9) := Lib.hid (by rw [hw9]; exact stM_below HK1.out hb9 _)
          have H45 : Hid (Mb w8 b9 zM) := Lib.hid (by rw [hw8]; exact rb.stR hne.symm _ _ _ _)
          rw [← hw8, ← hw9] at hE
          have z0 := ra.c0; have z1 := ra.c1; have zf := ra.f
          have hw8' : w8 = (u3.setCell ⟨b8, 0, none⟩ (.int .u16 (T.s : Int))).setCell ⟨b8, 1, none⟩ (.slice x8 n8 c8) := hw8
          have hw9' : w9 = ((w8.setCell ⟨b9, 0, none⟩ (.int .u16 (heardM T ⟨mn, ms, mi⟩).n)).setCell ⟨b9, 1, none⟩ (.int .u8 (heardM T ⟨mn, ms, mi⟩).s)).setCell ⟨b9, 2, none⟩ (.int .i64 (heardM T ⟨mn, ms, mi⟩).i) := hw9
          replace hw8' := Lib.hid hw8'
          replace hw9' := Lib.hid hw9'
          clear ra rb hx hs h1 h2 hn hb8 hb9 hne hw8 hw9
          refine wpAnyH_ready (rs := [12]) (by as_aux_lemma => kernel_rfl) (by simp) ?_
          refine AllReadyH.cons rfl (fun K hK => ?_) AllReadyH.nil
          go_simp
          rw [← hw8'.out]
          refine hK.out _ _ HK1.out (fun hS => ?_)
          clear hK K z0 z1 zf
          have x0 := H45.out.c0; have x1 := H45.out.c1; have x2 := H45.out.c2; have xf := H45.out.f
          dsimp only at x0 x1 x2
          clear hw8'
          refine wpAnyH_ready (rs := [13]) (by as_aux_lemma => kernel_rfl) (by simp) ?_
          refine AllReadyH.cons rfl (fun K hK => ?_) AllReadyH.nil
          go_simp
          rw [← hw9'.out]
          refine hK.out _ _ HK3.out (fun hS => ?_)
          clear hK K x0 x1 x2 xf hw9'
          refine wpAnyH_takeE (i := 14) (some 14) (v := ?_) rfl rfl (by as_aux_lemma => kernel_rfl) (by as_aux_lemma => kernel_rfl) (by as_aux_lemma => kernel_rfl) (fun _ _ _ h => h) (Or.inl ⟨by kernel_rfl, ?_⟩) hS ?_
          rotate_left
          · intro w hSw; skip; go_simp
            first | done | with_reducible rfl
          refine wpAnyH_done (by kernel_rfl) ?_ _
          exact ⟨b8, b9, x8, n8, c8, rfl, hE.out⟩
        · skip
          go_simp
          have dX : Below u1.heap.size u1 (u1.alloc (.cells #[.int .u16 0, .int .u8 0, .int .i64 0] 32)) := (Below.refl u1.heap.size u1).alloc (Nat.le_refl _) (.cells #[.int .u16 0, .int .u8 0, .int .i64 0] 32)
          have hb9 : Nr ≤ u1.heap.size := Nat.le_trans (Nat.le_of_eq HNe.out) hS.size
          refine hK.out _ _ (hS.trans (dX.mono (Nat.le_trans (Nat.le_of_eq HNe.out) hS.size))) (fun hS => ?_)
          clear hK K
          have rb : Mb (u1.alloc (.cells #[.int .u16 0, .int .u8 0, .int .i64 0] 32)) u1.heap.size zM := Mb.new u1 zM
          have h2 : ∀ q, x8 = some q → q.block ≠ u1.heap.size := fun q e => Nat.ne_of_lt (hx.ltB HLp.out q e)
          replace hx := hx.on dX
          clear dX
          generalize hy : (u1.alloc (.cells #[.int .u16 0, .int .u8 0, .int .i64 0] 32)) = u2 at *
          clear hy
          generalize hyb : u1.heap.size = b9 at *
          clear hyb
          refine wpAnyH_ready (rs := [10]) (by as_aux_lemma => kernel_rfl) (by simp) ?_
          refine AllReadyH.cons rfl (fun K hK => ?_) AllReadyH.nil
          go_simp
          have dX : Below u2.heap.size u2 (u2.alloc (.cells #[.int .u16 0, .slice none 0 0] 28)) := (Below.refl u2.heap.size u2).alloc (Nat.le_refl _) (.cells #[.int .u16 0, .slice none 0 0] 28)
          have hb8 : Nr ≤ u2.heap.size := Nat.le_trans (Nat.le_of_eq HNe.out) hS.size
          refine hK.out _ _ (hS.trans (dX.mono (Nat.le_trans (Nat.le_of_eq HNe.out) hS.size))) (fun hS => ?_)
          clear hK K
          have ra : RtB (u2.alloc (.cells #[.int .u16 0, .slice none 0 0] 28)) u2.heap.size 0 none 0 0 := RtB.new u2 0 none 0 0
          have hne : u2.heap.size ≠ b9 := (Nat.ne_of_lt rb.lt).symm
          replace rb := rb.on dX
          have h1 : ∀ q, x8 = some q → q.block ≠ u2.heap.size := fun q e => Nat.ne_of_lt (hx.ltB HLp.out q e)
          replace hx := hx.on dX
          clear dX
          generalize hy : (u2.alloc (.cells #[.int .u16 0, .slice none 0 0] 28)) = u3 at *
          clear hy
          generalize hyb : u2.heap.size = b8 at *
          clear hyb
          have hE := Lib.hid (HearEnd.mk (c := c8) ra rb hb8 hb9 hne hn.out hx hs h1 h2 hS)
          obtain ⟨w8, hw8⟩ : ∃ w8, w8 = stR u3 b8 (T.s : Int) x8 n8 c8 := ⟨_, rfl⟩
          obtain ⟨w9, hw9⟩ : ∃ w9, w9 = stM w8 b9 (heardM T ⟨mn, ms, mi⟩) := ⟨_, rfl⟩
          have HK1 : Hid (Below Nr wx w8) := Lib.hid (by rw [hw8]; exact stR_below hS hb8 _ _ _ _)
          have HK3 : Hid (Below Nr wx w9) := Lib.hid (by rw [hw9]; exact stM_below HK1.out hb9 _)
          have H45 : Hid (Mb w8 b9 zM) := Lib.hid (by rw [hw8]; exact rb.stR hne.symm _ _ _ _)
          rw [← hw8, ← hw9] at hE
          have z0 := ra.c0; have z1 := ra.c1; have zf := ra.f
          have hw8' : w8 = (u3.setCell ⟨b8, 0, none⟩ (.int .u16 (T.s : Int))).setCell ⟨b8, 1, none⟩ (.slice x8 n8 c8) := hw8
          have hw9' : w9 = ((w8.setCell ⟨b9, 0, none⟩ (.int .u16 (heardM T ⟨mn, ms, mi⟩).n)).setCell ⟨b9, 1, none⟩ (.int .u8 (heardM T ⟨mn, ms, mi⟩).s)).setCell ⟨b9, 2, none⟩ (.int .i64 (heardM T ⟨mn, ms, mi⟩).i) := hw9
          replace hw8' := Lib.hid hw8'
          replace hw9' := Lib.hid hw9'
          clear ra rb hx hs h1 h2 hn hb8 hb9 hne hw8 hw9
          refine wpAnyH_ready (rs := [12]) (by as_aux_lemma => kernel_rfl) (by simp) ?_
          refine AllReadyH.cons rfl (fun K hK => ?_) AllReadyH.nil
          go_simp
          rw [← hw8'.out]
          refine hK.out _ _ HK1.out (fun hS => ?_)
          clear hK K z0 z1 zf
          have x0 := H45.out.c0; have x1 := H45.out.c1; have x2 := H45.out.c2; have xf := H45.out.f
          dsimp only at x0 x1 x2
          clear hw8'
          refine wpAnyH_ready (rs := [13]) (by as_aux_lemma => kernel_rfl) (by simp) ?_
          refine AllReadyH.cons rfl (fun K hK => ?_) AllReadyH.nil
          go_simp
          rw [← hw9'.out]
          refine hK.out _ _ HK3.out (fun hS => ?_)
          clear hK K x0 x1 x2 xf hw9'
          refine wpAnyH_takeE (i := 14) (some 14) (v := ?_) rfl rfl (by as_aux_lemma => kernel_rfl) (by as_aux_lemma => kernel_rfl) (by as_aux_lemma => kernel_rfl) (fun _ _ _ h => h) (Or.inl ⟨by kernel_rfl, ?_⟩) hS ?_
          rotate_left
          · intro w hSw; skip; go_simp
            first | done | with_reducible rfl
          refine wpAnyH_done (by kernel_rfl) ?_ _
          exact ⟨b8, b9, x8, n8, c8, rfl, hE.out⟩
      · skip
        go_simp
        have dX : Below wx.drew.heap.size wx.drew (wx.alloc (.cells #[.int .u16 0, .slice none 0 0] 28)).drew := (Below.refl wx.drew.heap.size wx.drew).alloc (Nat.le_refl _) (.cells #[.int .u16 0, .slice none 0 0] 28)
        refine hK.out _ _ (hS.trans (dX.mono (Nat.le_trans (Nat.le_of_eq HNe.out) hS.size))) (fun hS => ?_)
        clear hK K
        have hb8 : Nr ≤ wx.heap.size := Nat.le_of_eq HNe.out
        have ra : RtB (wx.alloc (.cells #[.int .u16 0, .slice none 0 0] 28)).drew wx.heap.size 0 none 0 0 := RtB.new wx 0 none 0 0
        clear dX
        generalize hy : (wx.alloc (.cells #[.int .u16 0, .slice none 0 0] 28)).drew = u1 at *
        clear hy
        generalize hyb : wx.heap.size = b8 at hb8 ra ⊢
        clear hyb
        refine wpAnyH_ready (rs := [5, 11]) (by as_aux_lemma => kernel_rfl) (by simp) ?_
        refine AllReadyH.cons rfl (fun K hK => ?_) (AllReadyH.cons rfl (fun K hK => ?_) AllReadyH.nil)
        · skip
          go_simp
          go_wp2_with (go_at_call 13; refine (HHe.out _ hS).mono ?_; rintro e u2 ⟨x8, n8, c8, rfl, hn, hx, hs0, qx⟩; replace hn := Lib.hid hn; replace qx := Lib.hid qx)
          have h1 : ∀ q, x8 = some q → q.block ≠ b8 := fun q e => by
            have h3 := ra.lt
            rcases hs0 q e with h | h
            · have := HA2.out q h; omega
            · omega
          replace ra := ra.on qx.out
          have hs : ∀ q, x8 = some q → a8 = some q ∨ Nr ≤ q.block := fun q e => (hs0 q e).imp id (fun h => Nat.le_trans (Nat.le_trans (Nat.le_of_eq HNe.out) hS.size) h)
          refine hK.out _ _ ?_ (fun hS => ?_)
          · exact hS.trans (qx.out.mono (Nat.le_trans (Nat.le_of_eq HNe.out) hS.size))
          clear hK K hs0 qx
          refine wpAnyH_takeE (i := 6) (some 38) (v := ?_) rfl rfl (by as_aux_lemma => kernel_rfl) (by as_aux_lemma => kernel_rfl) (by as_aux_lemma => kernel_rfl) (fun _ _ _ h => h) (Or.inl ⟨by kernel_rfl, ?_⟩) hS ?_
          rotate_left
          · intro w hSw; skip; go_simp
            first | done | with_reducible rfl
          refine wpAnyH_takeE (i := 7) (some 45) (v := ?_) rfl rfl (by as_aux_lemma => kernel_rfl) (by as_aux_lemma => kernel_rfl) (by as_aux_lemma => kernel_rfl) (fun _ _ _ h => h) (Or.inl ⟨by kernel_rfl, ?_⟩) hS ?_
          rotate_left
          · intro w hSw; skip; go_simp
            first | done | with_reducible rfl
          refine wpAnyH_takeE (i := 8) (some 46) (v := ?_) rfl rfl (by as_aux_lemma => kernel_rfl) (by as_aux_lemma => kernel_rfl) (by as_aux_lemma => kernel_rfl) (fun _ _ _ h => h) (Or.inl ⟨by kernel_rfl, ?_⟩) hS ?_
          rotate_left
          · intro w hSw; skip; go_simp
            first | done | with_reducible rfl
          refine wpAnyH_takeE (i := 9) (some 47) (v := ?_) rfl rfl (by as_aux_lemma => kernel_rfl) (by as_aux_lemma => kernel_rfl) (by as_aux_lemma => kernel_rfl) (fun _ _ _ h => h) (Or.inl ⟨by kernel_rfl, ?_⟩) hS ?_
          rotate_left
          · intro w hSw; skip; go_simp
            first | done | with_reducible rfl
          refine wpAnyH_ready (rs := [11]) (by as_aux_lemma => kernel_rfl) (by simp) ?_
          refine AllReadyH.cons rfl (fun K hK => ?_) AllReadyH.nil
          go_simp
          have dX : Below u2.heap.size u2 (u2.alloc (.cells #[.int .u16 0, .int .u8 0, .int .i64 0] 32)) := (Below.refl u2.heap.size u2).alloc (Nat.le_refl _) (.cells #[.int .u16 0, .int .u8 0, .int .i64 0] 32)
          have hb9 : Nr ≤ u2.heap.size := Nat.le_trans (Nat.le_of_eq HNe.out) hS.size
          refine hK.out _ _ (hS.trans (dX.mono (Nat.le_trans (Nat.le_of_eq HNe.out) hS.size))) (fun hS => ?_)
          clear hK K
          have rb : Mb (u2.alloc (.cells #[.int .u16 0, .int .u8 0, .int .i64 0] 32)) u2.heap.size zM := Mb.new u2 zM
          have hne : b8 ≠ u2.heap.size := Nat.ne_of_lt ra.lt
          replace ra := ra.on dX
          have h2 : ∀ q, x8 = some q → q.block ≠ u2.heap.size := fun q e => Nat.ne_of_lt (hx.ltB HLp.out q e)
          replace hx := hx.on dX
          clear dX
          generalize hy : (u2.alloc (.cells #[.int .u16 0, .int .u8 0, .int .i64 0] 32)) = u3 at *
          clear hy
          generalize hyb : u2.heap.size = b9 at *
          clear hyb
          have hE := Lib.hid (HearEnd.mk (c := c8) ra rb hb8 hb9 hne hn.out hx hs h1 h2 hS)
          obtain ⟨w8, hw8⟩ : ∃ w8, w8 = stR u3 b8 (T.s : Int) x8 n8 c8 := ⟨_, rfl⟩
          obtain ⟨w9, hw9⟩ : ∃ w9, w9 = stM w8 b9 (heardM T ⟨mn, ms, mi⟩) := ⟨_, rfl⟩
          have HK1 : Hid (Below Nr wx w8) := Lib.hid (by rw [hw8]; exact stR_below hS hb8 _ _ _ _)
          have HK3 : Hid (Below Nr wx w9) := Lib.hid (by rw [hw9]; exact stM_below HK1.out hb9 _)
          have H45 : Hid (Mb w8 b9 zM) := Lib.hid (by rw [hw8]; exact rb.stR hne.symm _ _ _ _)
          rw [← hw8, ← hw9] at hE
          have z0 := ra.c0; have z1 := ra.c1; have zf := ra.f
          have hw8' : w8 = (u3.setCell ⟨b8, 0, none⟩ (.int .u16 (T.s : Int))).setCell ⟨b8, 1, none⟩ (.slice x8 n8 c8) := hw8
          have hw9' : w9 = ((w8.setCell ⟨b9, 0, none⟩ (.int .u16 (heardM T ⟨mn, ms, mi⟩).n)).setCell ⟨b9, 1, none⟩ (.int .u8 (heardM T ⟨mn, ms, mi⟩).s)).setCell ⟨b9, 2, none⟩ (.int .i64 (heardM T ⟨mn, ms, mi⟩).i) := hw9
          replace hw8' := Lib.hid hw8'
          replace hw9' := Lib.hid hw9'
          clear ra rb hx hs h1 h2 hn hb8 hb9 hne hw8 hw9
          refine wpAnyH_ready (rs := [12]) (by as_aux_lemma => kernel_rfl) (by simp) ?_
          refine AllReadyH.cons rfl (fun K hK => ?_) AllReadyH.nil
          go_simp
          rw [← hw8'.out]
          refine hK.out _ _ HK1.out (fun hS => ?_)
          clear hK K z0 z1 zf
          have x0 := H45.out.c0; have x1 := H45.out.c1; have x2 := H45.out.c2; have xf := H45.out.f
          dsimp only at x0 x1 x2
          clear hw8'
          refine wpAnyH_ready (rs := [13]) (by as_aux_lemma => kernel_rfl) (by simp) ?_
          refine AllReadyH.cons rfl (fun K hK => ?_) AllReadyH.nil
          go_simp
          rw [← hw9'.out]
          refine hK.out _ _ HK3.out (fun hS => ?_)
          clear hK K x0 x1 x2 xf hw9'
          refine wpAnyH_takeE (i := 14) (some 14) (v := ?_) rfl rfl (by as_aux_lemma => kernel_rfl) (by as_aux_lemma => kernel_rfl) (by as_aux_lemma => kernel_rfl) (fun _ _ _ h => h) (Or.inl ⟨by kernel_rfl, ?_⟩) hS ?_
          rotate_left
          · intro w hSw; skip; go_simp
            first | done | with_reducible rfl
          refine wpAnyH_done (by kernel_rfl) ?_ _
          exact ⟨b8, b9, x8, n8, c8, rfl, hE.out⟩
        · skip
          go_simp
          have dX : Below u1.heap.size u1 (u1.alloc (.cells #[.int .u16 0, .int .u8 0, .int .i64 0] 32)) := (Below.refl u1.heap.size u1).alloc (Nat.le_refl _) (.cells #[.int .u16 0, .int .u8 0, .int .i64 0] 32)
          have hb9 : Nr ≤ u1.heap.size := Nat.le_trans (Nat.le_of_eq HNe.out) hS.size
          refine hK.out _ _ (hS.trans (dX.mono (Nat.le_trans (Nat.le_of_eq HNe.out) hS.size))) (fun hS => ?_)
          clear hK K
          have rb : Mb (u1.alloc (.cells #[.int .u16 0, .int .u8 0, .int .i64 0] 32)) u1.heap.size zM := Mb.new u1 zM
          have hne : b8 ≠ u1.heap.size := Nat.ne_of_lt ra.lt
          replace ra := ra.on dX
          clear dX
          generalize hy : (u1.alloc (.cells #[.int .u16 0, .int .u8 0, .int .i64 0] 32)) = u2 at *
          clear hy
          generalize hyb : u1.heap.size = b9 at *
          clear hyb
          refine wpAnyH_ready (rs := [5]) (by as_aux_lemma => kernel_rfl) (by simp) ?_
          refine AllReadyH.cons rfl (fun K hK => ?_) AllReadyH.nil
          go_simp
          go_wp2_with (go_at_call 13; refine (HHe.out _ hS).mono ?_; rintro e u3 ⟨x8, n8, c8, rfl, hn, hx, hs0, qx⟩; replace hn := Lib.hid hn; replace qx := Lib.hid qx)
          have h1 : ∀ q, x8 = some q → q.block ≠ b8 := fun q e => by
            have h3 := ra.lt
            rcases hs0 q e with h | h
            · have := HA2.out q h; omega
            · omega
          replace ra := ra.on qx.out
          have h2 : ∀ q, x8 = some q → q.block ≠ b9 := fun q e => by
            have h3 := rb.lt
            rcases hs0 q e with h | h
            · have := HA2.out q h; omega
            · omega
          replace rb := rb.on qx.out
          have hs : ∀ q, x8 = some q → a8 = some q ∨ Nr ≤ q.block := fun q e => (hs0 q e).imp id (fun h => Nat.le_trans (Nat.le_trans (Nat.le_of_eq HNe.out) hS.size) h)
          refine hK.out _ _ ?_ (fun hS => ?_)
          · exact hS.trans (qx.out.mono (Nat.le_trans (Nat.le_of_eq HNe.out) hS.size))
          clear hK K hs0 qx
          refine wpAnyH_takeE (i := 6) (some 38) (v := ?_) rfl rfl (by as_aux_lemma => kernel_rfl) (by as_aux_lemma => kernel_rfl) (by as_aux_lemma => kernel_rfl) (fun _ _ _ h => h) (Or.inl ⟨by kernel_rfl, ?_⟩) hS ?_
          rotate_left
          · intro w hSw; skip; go_simp
            first | done | with_reducible rfl
          refine wpAnyH_takeE (i := 7) (some 45) (v := ?_) rfl rfl (by as_aux_lemma => kernel_rfl) (by as_aux_lemma => kernel_rfl) (by as_aux_lemma => kernel_rfl) (fun _ _ _ h => h) (Or.inl ⟨by kernel_rfl, ?_⟩) hS ?_
          rotate_left
          · intro w hSw; skip; go_simp
            first | done | with_reducible rfl
          refine wpAnyH_takeE (i := 8) (some 46) (v := ?_) rfl rfl (by as_aux_lemma => kernel_rfl) (by as_aux_lemma => kernel_rfl) (by as_aux_lemma => kernel_rfl) (fun _ _ _ h => h) (Or.inl ⟨by kernel_rfl, ?_⟩) hS ?_
          rotate_left
          · intro w hSw; skip; go_simp
            first | done | with_reducible rfl
          refine wpAnyH_takeE (i := 9) (some 47) (v := ?_) rfl rfl (by as_aux_lemma => kernel_rfl) (by as_aux_lemma => kernel_rfl) (by as_aux_lemma => kernel_rfl) (fun _ _ _ h => h) (Or.inl ⟨by kernel_rfl, ?_⟩) hS ?_
          rotate_left
          · intro w hSw; skip; go_simp
            first | done | with_reducible rfl
          have hE := Lib.hid (HearEnd.mk (c := c8) ra rb hb8 hb9 hne hn.out hx hs h1 h2 hS)
          obtain ⟨w8, hw8⟩ : ∃ w8, w8 = stR u3 b8 (T.s : Int) x8 n8 c8 := ⟨_, rfl⟩
          obtain ⟨w9, hw9⟩ : ∃ w9, w9 = stM w8 b9 (heardM T ⟨mn, ms, mi⟩) := ⟨_, rfl⟩
          have HK1 : Hid (Below Nr wx w8) := Lib.hid (by rw [hw8]; exact stR_below hS hb8 _ _ _ _)
          have HK3 : Hid (Below Nr wx w9) := Lib.hid (by rw [hw9]; exact stM_below HK1.out hb9 _)
          have H45 : Hid (Mb w8 b9 zM) := Lib.hid (by rw [hw8]; exact rb.stR hne.symm _ _ _ _)
          rw [← hw8, ← hw9] at hE
          have z0 := ra.c0; have z1 := ra.c1; have zf := ra.f
          have hw8' : w8 = (u3.setCell ⟨b8, 0, none⟩ (.int .u16 (T.s : Int))).setCell ⟨b8, 1, none⟩ (.slice x8 n8 c8) := hw8
          have hw9' : w9 = ((w8.setCell ⟨b9, 0, none⟩ (.int .u16 (heardM T ⟨mn, ms, mi⟩).n)).setCell ⟨b9, 1, none⟩ (.int .u8 (heardM T ⟨mn, ms, mi⟩).s)).setCell ⟨b9, 2, none⟩ (.int .i64 (heardM T ⟨mn, ms, mi⟩).i) := hw9
          replace hw8' := Lib.hid hw8'
          replace hw9' := Lib.hid hw9'
          clear ra rb hx hs h1 h2 hn hb8 hb9 hne hw8 hw9
          refine wpAnyH_ready (rs := [12]) (by as_aux_lemma => kernel_rfl) (by simp) ?_
          refine AllReadyH.cons rfl (fun K hK => ?_) AllReadyH.nil
          go_simp
          rw [← hw8'.out]
          refine hK.out _ _ HK1.out (fun hS => ?_)
          clear hK K z0 z1 zf
          have x0 := H45.out.c0; have x1 := H45.out.c1; have x2 := H45.out.c2; have xf := H45.out.f
          dsimp only at x0 x1 x2
          clear hw8'
          refine wpAnyH_ready (rs := [13]) (by as_aux_lemma => kernel_rfl) (by simp) ?_
          refine AllReadyH.cons rfl (fun K hK => ?_) AllReadyH.nil
          go_simp
          rw [← hw9'.out]
          refine hK.out _ _ HK3.out (fun hS => ?_)
          clear hK K x0 x1 x2 xf hw9'
          refine wpAnyH_takeE (i := 14) (some 14) (v := ?_) rfl rfl (by as_aux_lemma => kernel_rfl) (by as_aux_lemma => kernel_rfl) (by as_aux_lemma => kernel_rfl) (fun _ _ _ h => h) (Or.inl ⟨by kernel_rfl, ?_⟩) hS ?_
          rotate_left
          · intro w hSw; skip; go_simp
            first | done | with_reducible rfl
          refine wpAnyH_done (by kernel_rfl) ?_ _
          exact ⟨b8, b9, x8, n8, c8, rfl, hE.out⟩
      · skip
        go_simp
        have dX : Below wx.drew.heap.size wx.drew (wx.alloc (.cells #[.int .u16 0, .int .u8 0, .int .i64 0] 32)).drew := (Below.refl wx.drew.heap.size wx.drew).alloc (Nat.le_refl _) (.cells #[.int .u16 0, .int .u8 0, .int .i64 0] 32)
        refine hK.out _ _ (hS.trans (dX.mono (Nat.le_trans (Nat.le_of_eq HNe.out) hS.size))) (fun hS => ?_)
        clear hK K
        have hb9 : Nr ≤ wx.heap.size := Nat.le_of_eq HNe.out
        have rb : Mb (wx.alloc (.cells #[.int .u16 0, .int .u8 0, .int .i64 0] 32)).drew wx.heap.size zM := Mb.new wx zM
        clear dX
        generalize hy : (wx.alloc (.cells #[.int .u16 0, .int .u8 0, .int .i64 0] 32)).drew = u1 at *
        clear hy
        generalize hyb : wx.heap.size = b9 at hb9 rb ⊢
        clear hyb
        refine wpAnyH_ready (rs := [5, 10]) (by as_aux_lemma => kernel_rfl) (by simp) ?_
        refine AllReadyH.cons rfl (fun K hK => ?_) (AllReadyH.cons rfl (fun K hK => ?_) AllReadyH.nil)
        · skip
          go_simp
          go_wp2_with (go_at_call 13; refine (HHe.out _ hS).mono ?_; rintro e u2 ⟨x8, n8, c8, rfl, hn, hx, hs0, qx⟩; replace hn := Lib.hid hn; replace qx := Lib.hid qx)
          have h2 : ∀ q, x8 = some q → q.block ≠ b9 := fun q e => by
            have h3 := rb.lt
            rcases hs0 q e with h | h
            · have := HA2.out q h; omega
            · omega
          replace rb := rb.on qx.out
          have hs : ∀ q, x8 = some q → a8 = some q ∨ Nr ≤ q.block := fun q e => (hs0 q e).imp id (fun h => Nat.le_trans (Nat.le_trans (Nat.le_of_eq HNe.out) hS.size) h)
          refine hK.out _ _ ?_ (fun hS => ?_)
          · exact hS.trans (qx.out.mono (Nat.le_trans (Nat.le_of_eq HNe.out) hS.size))
          clear hK K hs0 qx
          refine wpAnyH_takeE (i := 6) (some 38) (v := ?_) rfl rfl (by as_aux_lemma => kernel_rfl) (by as_aux_lemma => kernel_rfl) (by as_aux_lemma => kernel_rfl) (fun _ _ _ h => h) (Or.inl ⟨by kernel_rfl, ?_⟩) hS ?_
          rotate_left
          · intro w hSw; skip; go_simp
            first | done | with_reducible rfl
          refine wpAnyH_takeE (i := 7) (some 45) (v := ?_) rfl rfl (by as_aux_lemma => kernel_rfl) (by as_aux_lemma => kernel_rfl) (by as_aux_lemma => kernel_rfl) (fun _ _ _ h => h) (Or.inl ⟨by kernel_rfl, ?_⟩) hS ?_
          rotate_left
          · intro w hSw; skip; go_simp
            first | done | with_reducible rfl
          refine wpAnyH_takeE (i := 8) (some 46) (v := ?_) rfl rfl (by as_aux_lemma => kernel_rfl) (by as_aux_lemma => kernel_rfl) (by as_aux_lemma => kernel_rfl) (fun _ _ _ h => h) (Or.inl ⟨by kernel_rfl, ?_⟩) hS ?_
          rotate_left
          · intro w hSw; skip; go_simp
            first | done | with_reducible rfl
          refine wpAnyH_takeE (i := 9) (some 47) (v := ?_) rfl rfl (by as_aux_lemma => kernel_rfl) (by as_aux_lemma => kernel_rfl) (by as_aux_lemma => kernel_rfl) (fun _ _ _ h => h) (Or.inl ⟨by kernel_rfl, ?_⟩) hS ?_
          rotate_left
          · intro w hSw; skip; go_simp
            first | done | with_reducible rfl
          refine wpAnyH_ready (rs := [10]) (by as_aux_lemma => kernel_rfl) (by simp) ?_
          refine AllReadyH.cons rfl (fun K hK => ?_) AllReadyH.nil
          go_simp
          have dX : Below u2.heap.size u2 (u2.alloc (.cells #[.int .u16 0, .slice none 0 0] 28)) := (Below.refl u2.heap.size u2).alloc (Nat.le_refl _) (.cells #[.int .u16 0, .slice none 0 0] 28)
          have hb8 : Nr ≤ u2.heap.size := Nat.le_trans (Nat.le_of_eq HNe.out) hS.size
          refine hK.out _ _ (hS.trans (dX.mono (Nat.le_trans (Nat.le_of_eq HNe.out) hS.size))) (fun hS => ?_)
          clear hK K
          have ra : RtB (u2.alloc (.cells #[.int .u16 0, .slice none 0 0] 28)) u2.heap.size 0 none 0 0 := RtB.new u2 0 none 0 0
          have hne : u2.heap.size ≠ b9 := (Nat.ne_of_lt rb.lt).symm
          replace rb := rb.on dX
          have h1 : ∀ q, x8 = some q → q.block ≠ u2.heap.size := fun q e => Nat.ne_of_lt (hx.ltB HLp.out q e)
          replace hx := hx.on dX
          clear dX
          generalize hy : (u2.alloc (.cells #[.int .u16 0, .slice none 0 0] 28)) = u3 at *
          clear hy
          generalize hyb : u2.heap.size = b8 at *
          clear hyb
          have hE := Lib.hid (HearEnd.mk (c := c8) ra rb hb8 hb9 hne hn.out hx hs h1 h2 hS)
          obtain ⟨w8, hw8⟩ : ∃ w8, w8 = stR u3 b8 (T.s : Int) x8 n8 c8 := ⟨_, rfl⟩
          obtain ⟨w9, hw9⟩ : ∃ w9, w9 = stM w8 b9 (heardM T ⟨mn, ms, mi⟩) := ⟨_, rfl⟩
          have HK1 : Hid (Below Nr wx w8) := Lib.hid (by rw [hw8]; exact stR_below hS hb8 _ _ _ _)
          have HK3 : Hid (Below Nr wx w9) := Lib.hid (by rw [hw9]; exact stM_below HK1.out hb9 _)
          have H45 : Hid (Mb w8 b9 zM) := Lib.hid (by rw [hw8]; exact rb.stR hne.symm _ _ _ _)
          rw [← hw8, ← hw9] at hE
          have z0 := ra.c0; have z1 := ra.c1; have zf := ra.f
          have hw8' : w8 = (u3.setCell ⟨b8, 0, none⟩ (.int .u16 (T.s : Int))).setCell ⟨b8, 1, none⟩ (.slice x8 n8 c8) := hw8
          have hw9' : w9 = ((w8.setCell ⟨b9, 0, none⟩ (.int .u16 (heardM T ⟨mn, ms, mi⟩).n)).setCell ⟨b9, 1, none⟩ (.int .u8 (heardM T ⟨mn, ms, mi⟩).s)).setCell ⟨b9, 2, none⟩ (.int .i64 (heardM T ⟨mn, ms, mi⟩).i) := hw9
          replace hw8' := Lib.hid hw8'
          replace hw9' := Lib.hid hw9'
          clear ra rb hx hs h1 h2 hn hb8 hb9 hne hw8 hw9
          refine wpAnyH_ready (rs := [12]) (by as_aux_lemma => kernel_rfl) (by simp) ?_
          refine AllReadyH.cons rfl (fun K hK => ?_) AllReadyH.nil
          go_simp
          rw [← hw8'.out]
          refine hK.out _ _ HK1.out (fun hS => ?_)
          clear hK K z0 z1 zf
          have x0 := H45.out.c0; have x1 := H45.out.c1; have x2 := H45.out.c2; have xf := H45.out.f
          dsimp only at x0 x1 x2
          clear hw8'
          refine wpAnyH_ready (rs := [13]) (by as_aux_lemma => kernel_rfl) (by simp) ?_
          refine AllReadyH.cons rfl (fun K hK => ?_) AllReadyH.nil
          go_simp
          rw [← hw9'.out]
          refine hK.out _ _ HK3.out (fun hS => ?_)
          clear hK K x0 x1 x2 xf hw9'
          refine wpAnyH_takeE (i := 14) (some 14) (v := ?_) rfl rfl (by as_aux_lemma => kernel_rfl) (by as_aux_lemma => kernel_rfl) (by as_aux_lemma => kernel_rfl) (fun _ _ _ h => h) (Or.inl ⟨by kernel_rfl, ?_⟩) hS ?_
          rotate_left
          · intro w hSw; skip; go_simp
            first | done | with_reducible rfl
          refine wpAnyH_done (by kernel_rfl) ?_ _
          exact ⟨b8, b9, x8, n8, c8, rfl, hE.out⟩
        · skip
          go_simp
          have dX : Below u1.heap.size u1 (u1.alloc (.cells #[.int .u16 0, .slice none 0 0] 28)) := (Below.refl u1.heap.size u1).alloc (Nat.le_refl _) (.cells #[.int .u16 0, .slice none 0 0] 28)
          have hb8 : Nr ≤ u1.heap.size := Nat.le_trans (Nat.le_of_eq HNe.out) hS.size
          refine hK.out _ _ (hS.trans (dX.mono (Nat.le_trans (Nat.le_of_eq HNe.out) hS.size))) (fun hS => ?_)
          clear hK K
          have ra : RtB (u1.alloc (.cells #[.int .u16 0, .slice none 0 0] 28)) u1.heap.size 0 none 0 0 := RtB.new u1 0 none 0 0
          have hne : u1.heap.size ≠ b9 := (Nat.ne_of_lt rb.lt).symm
          replace rb := rb.on dX
          clear dX
          generalize hy : (u1.alloc (.cells #[.int .u16 0, .slice none 0 0] 28)) = u2 at *
          clear hy
          generalize hyb : u1.heap.size = b8 at *
          clear hyb
          refine wpAnyH_ready (rs := [5]) (by as_aux_lemma => kernel_rfl) (by simp) ?_
          refine AllReadyH.cons rfl (fun K hK => ?_) AllReadyH.nil
          go_simp
          go_wp2_with (go_at_call 13; refine (HHe.out _ hS).mono ?_; rintro e u3 ⟨x8, n8, c8, rfl, hn, hx, hs0, qx⟩; replace hn := Lib.hid hn; replace qx := Lib.hid qx)
          have h1 : ∀ q, x8 = some q → q.block ≠ b8 := fun q e => by
            have h3 := ra.lt
            rcases hs0 q e with h | h
            · have := HA2.out q h; omega
            · omega
          replace ra := ra.on qx.out
          have h2 : ∀ q, x8 = some q → q.block ≠ b9 := fun q e => by
            have h3 := rb.lt
            rcases hs0 q e with h | h
            · have := HA2.out q h; omega
            · omega
          replace rb := rb.on qx.out
          have hs : ∀ q, x8 = some q → a8 = some q ∨ Nr ≤ q.block := fun q e => (hs0 q e).imp id (fun h => Nat.le_trans (Nat.le_trans (Nat.le_of_eq HNe.out) hS.size) h)
          refine hK.out _ _ ?_ (fun hS => ?_)
          · exact hS.trans (qx.out.mono (Nat.le_trans (Nat.le_of_eq HNe.out) hS.size))
          clear hK K hs0 qx
          refine wpAnyH_takeE (i := 6) (some 38) (v := ?_) rfl rfl (by as_aux_lemma => kernel_rfl) (by as_aux_lemma => kernel_rfl) (by as_aux_lemma => kernel_rfl) (fun _ _ _ h => h) (Or.inl ⟨by kernel_rfl, ?_⟩) hS ?_
          rotate_left
          · intro w hSw; skip; go_simp
            first | done | with_reducible rfl
          refine wpAnyH_takeE (i := 7) (some 45) (v := ?_) rfl rfl (by as_aux_lemma => kernel_rfl) (by as_aux_lemma => kernel_rfl) (by as_aux_lemma => kernel_rfl) (fun _ _ _ h => h) (Or.inl ⟨by kernel_rfl, ?_⟩) hS ?_
          rotate_left
          · intro w hSw; skip; go_simp
            first | done | with_reducible rfl
          refine wpAnyH_takeE (i := 8) (some 46) (v := ?_) rfl rfl (by as_aux_lemma => kernel_rfl) (by as_aux_lemma => kernel_rfl) (by as_aux_lemma => kernel_rfl) (fun _ _ _ h => h) (Or.inl ⟨by kernel_rfl, ?_⟩) hS ?_
          rotate_left
          · intro w hSw; skip; go_simp
            first | done | with_reducible rfl
          refine wpAnyH_takeE (i := 9) (some 47) (v := ?_) rfl rfl (by as_aux_lemma => kernel_rfl) (by as_aux_lemma => kernel_rfl) (by as_aux_lemma => kernel_rfl) (fun _ _ _ h => h) (Or.inl ⟨by kernel_rfl, ?_⟩) hS ?_
          rotate_left
          · intro w hSw; skip; go_simp
            first | done | with_reducible rfl
          have hE := Lib.hid (HearEnd.mk (c := c8) ra rb hb8 hb9 hne hn.out hx hs h1 h2 hS)
          obtain ⟨w8, hw8⟩ : ∃ w8, w8 = stR u3 b8 (T.s : Int) x8 n8 c8 := ⟨_, rfl⟩
          obtain ⟨w9, hw9⟩ : ∃ w9, w9 = stM w8 b9 (heardM T ⟨mn, ms, mi⟩) := ⟨_, rfl⟩
          have HK1 : Hid (Below Nr wx w8) := Lib.hid (by rw [hw8]; exact stR_below hS hb8 _ _ _ _)
          have HK3 : Hid (Below Nr wx w9) := Lib.hid (by rw [hw9]; exact stM_below HK1.out hb9 _)
          have H45 : Hid (Mb w8 b9 zM) := Lib.hid (by rw [hw8]; exact rb.stR hne.symm _ _ _ _)
          rw [← hw8, ← hw9] at hE
          have z0 := ra.c0; have z1 := ra.c1; have zf := ra.f
          have hw8' : w8 = (u3.setCell ⟨b8, 0, none⟩ (.int .u16 (T.s : Int))).setCell ⟨b8, 1, none⟩ (.slice x8 n8 c8) := hw8
          have hw9' : w9 = ((w8.setCell ⟨b9, 0, none⟩ (.int .u16 (heardM T ⟨mn, ms, mi⟩).n)).setCell ⟨b9, 1, none⟩ (.int .u8 (heardM T ⟨mn, ms, mi⟩).s)).setCell ⟨b9, 2, none⟩ (.int .i64 (heardM T ⟨mn, ms, mi⟩).i) := hw9
          replace hw8' := Lib.hid hw8'
          replace hw9' := Lib.hid hw9'
          clear ra rb hx hs h1 h2 hn hb8 hb9 hne hw8 hw9
          refine wpAnyH_ready (rs := [12]) (by as_aux_lemma => kernel_rfl) (by simp) ?_
          refine AllReadyH.cons rfl (fun K hK => ?_) AllReadyH.nil
          go_simp
          rw [← hw8'.out]
          refine hK.out _ _ HK1.out (fun hS => ?_)
          clear hK K z0 z1 zf
          have x0 := H45.out.c0; have x1 := H45.out.c1; have x2 := H45.out.c2; have xf := H45.out.f
          dsimp only at x0 x1 x2
          clear hw8'
          refine wpAnyH_ready (rs := [13]) (by as_aux_lemma => kernel_rfl) (by simp) ?_
          refine AllReadyH.cons rfl (fun K hK => ?_) AllReadyH.nil
          go_simp
          rw [← hw9'.out]
          refine hK.out _ _ HK3.out (fun hS => ?_)
          clear hK K x0 x1 x2 xf hw9'
          refine wpAnyH_takeE (i := 14) (some 14) (v := ?_) rfl rfl (by as_aux_lemma => kernel_rfl) (by as_aux_lemma => kernel_rfl) (by as_aux_lemma => kernel_rfl) (fun _ _ _ h => h) (Or.inl ⟨by kernel_rfl, ?_⟩) hS ?_
          rotate_left
          · intro w hSw; skip; go_simp
            first | done | with_reducible rfl
          refine wpAnyH_done (by kernel_rfl) ?_ _
          exact ⟨b8, b9, x8, n8, c8, rfl, hE.out⟩
    · rintro b12 b13 x8 n12 c12 w8 hE
      have hE2 := Lib.hid hE
      clear hE HHe HA2 HX
      obtain ⟨e1, e2, e3, e4, e5, e6, e7, e8⟩ := hE2.out
      rw [HMeT.out] at e1
      rw [← hdM.out] at e2
      have hr := HR.out
      have hnn : Nr = wx.heap.size := HNe.out
      have hbx := hr.2.1.lt
      have hby := hr.2.2.2.2.2.2.1.lt
      have r8 := hr.2.1.on (hnn ▸ e8)
      have c0 := e1.c0; have c1 := e1.c1
      have z0 := r8.c0; have z1 := r8.c1; have zf := r8.f
      obtain ⟨w9, hw9⟩ : ∃ w9, w9 = stR w8 B8 (s : Int) x8 n12 c12 := ⟨_, rfl⟩
      have HST : Hid (HSt W w9 s B8 (hearB T ⟨mn, ms, mi⟩) x8 n12 c12 ∧ Mb w9 b10 ⟨dn, ds, di⟩ ∧ Mb w9 b13 ⟨dn, ds, di⟩) := Lib.hid (by
        have hsx : ∀ q, x8 = some q → W.heap.size < q.block ∧ q.block ≠ B8 := fun q e => by
          rcases e7 q e with h | h
          · exact hr.2.2.2.1 q h
          · have := hr.2.2.2.2.1; omega
        have hsb := hr.2.2.2.2.2.2.2
        rw [hw9]
        have hbe := hr.2.2.2.2.2.1
        refine ⟨⟨HOk2.out.1, HOk2.out.2, (hr.1.on (hnn ▸ e8)).kept (stR_grown _ _ _ _ _ _) (by have := hr.2.2.2.2.1; simp; omega), r8.store _ _ _ _, e5, e6.setR (fun q e => (hsx q e).2) _ _ _ _, hsx, hr.2.2.2.2.1, stR_below (hbe.trans (e8.mono (by have := hbe.size; omega))) (Nat.le_of_lt hr.2.2.2.2.1) _ _ _ _⟩, (hr.2.2.2.2.2.2.1.on (hnn ▸ e8)).stR (by omega) _ _ _ _, e2.stR (by omega) _ _ _ _⟩)
      have hw9' : w9 = (w8.setCell ⟨B8, 0, none⟩ (.int .u16 (s : Int))).setCell ⟨B8, 1, none⟩ (.slice x8 n12 c12) := hw9
      have hw9'' := Lib.hid hw9'
      clear hw9 hw9' e1 e2 e3 e4 e5 e6 e7 e8 r8 HR hE2 hr hnn hbx hby
      go_simp
      go_upto_region 10 with fail
      rw [← hw9''.out]
      clear hw9'' c0 c1 z0 z1 zf HHr
      rw [← hdM.out]
      dsimp only
      have HAb := Lib.hid (fun u (x y : Mem) => bAbove_any x y u)
      have HBb := Lib.hid (fun u (x y : Mem) => brAbove_any x y u)
      have HXa := Lib.hid (fun u (hu : Below w9.heap.size w9 u) => HSa.out u _ x8 n12 c12 (HST.out.1.on hu))
      have HY : Hid (∀ u, Below w9.heap.size w9 u → RtB u B8 (s : Int) x8 n12 c12 ∧ Mb u b10 ⟨dn, ds, di⟩ ∧ Mb u b13 ⟨dn, ds, di⟩ ∧ Below W.heap.size W u) := Lib.hid (fun u hu => ⟨HST.out.1.box.on hu, HST.out.2.1.on hu, HST.out.2.2.on hu, (HST.out.1.on hu).below⟩)
      have hn2 : n ≤ 200 := h200
      have hne := fun w => run_neM ⟨dn, ds, di⟩ ⟨dn, ds, di⟩ w
      rw [eqMm_refl6] at hne
      dsimp only at hne
      simp only [Bool.not_true] at hne
      generalize newsB T ⟨mn, ms, mi⟩ = rB at *
      generalize heardM T ⟨mn, ms, mi⟩ = dM at *
      by_cases hi0 : i = 0
      case pos =>
        subst hi0
        have hi1 : ¬ (0 : Int) < ((0 : Nat) : Int) := by omega
        clear HPr HC
        refine wp_region_any (by kernel_rfl) ?_
        change wpAny _ _ _ _ _ _ _ (World.drew _)
        have hS : (fun w' : World => Below w9.heap.size w9 w') w9.drew := (Below.refl _ w9).drew
        refine wpAny_of_held (S := fun w' => Below w9.heap.size w9 w') _ _ _ _ ?_
        refine wpAnyH_takeE (i := 0) (some 49) (v := ?_) rfl rfl (by as_aux_lemma => kernel_rfl) (by as_aux_lemma => kernel_rfl) (by as_aux_lemma => kernel_rfl) (fun _ _ _ h => h) (Or.inl ⟨by kernel_rfl, ?_⟩) hS ?_
        rotate_left
        · intro w hSw; have y0 := HY.out _ hSw; have c0 := y0.1.c0; have c1 := y0.1.c1; have e0 := y0.2.1.c0; have e1 := y0.2.1.c1; have e2 := y0.2.1.c2; have f0 := y0.2.2.1.c0; have f1 := y0.2.2.1.c1; have f2 := y0.2.2.1.c2; dsimp only at e0 e1 e2 f0 f1 f2; clear y0; go_simp
          first | done | with_reducible rfl
        refine wpAnyH_takeE (i := 1) (some 50) (v := ?_) rfl rfl (by as_aux_lemma => kernel_rfl) (by as_aux_lemma => kernel_rfl) (by as_aux_lemma => kernel_rfl) (fun _ _ _ h => h) (Or.inl ⟨by kernel_rfl, ?_⟩) hS ?_
        rotate_left
        · intro w hSw; have y0 := HY.out _ hSw; have c0 := y0.1.c0; have c1 := y0.1.c1; have e0 := y0.2.1.c0; have e1 := y0.2.1.c1; have e2 := y0.2.1.c2; have f0 := y0.2.2.1.c0; have f1 := y0.2.2.1.c1; have f2 := y0.2.2.1.c2; dsimp only at e0 e1 e2 f0 f1 f2; clear y0; go_simp
          first | done | with_reducible rfl
        refine wpAnyH_takeE (i := 2) (some 51) (v := ?_) rfl rfl (by as_aux_lemma => kernel_rfl) (by as_aux_lemma => kernel_rfl) (by as_aux_lemma => kernel_rfl) (fun _ _ _ h => h) (Or.inl ⟨by kernel_rfl, ?_⟩) hS ?_
        rotate_left
        · intro w hSw; have y0 := HY.out _ hSw; have c0 := y0.1.c0; have c1 := y0.1.c1; have e0 := y0.2.1.c0; have e1 := y0.2.1.c1; have e2 := y0.2.1.c2; have f0 := y0.2.2.1.c0; have f1 := y0.2.2.1.c1; have f2 := y0.2.2.1.c2; dsimp only at e0 e1 e2 f0 f1 f2; clear y0; go_simp
          first | done | with_reducible rfl
        refine wpAnyH_takeE (i := 3) (some 52) (v := ?_) rfl rfl (by as_aux_lemma => kernel_rfl) (by as_aux_lemma => kernel_rfl) (by as_aux_lemma => kernel_rfl) (fun _ _ _ h => h) (Or.inl ⟨by kernel_rfl, ?_⟩) hS ?_
        rotate_left
        · intro w hSw; have y0 := HY.out _ hSw; have c0 := y0.1.c0; have c1 := y0.1.c1; have e0 := y0.2.1.c0; have e1 := y0.2.1.c1; have e2 := y0.2.1.c2; have f0 := y0.2.2.1.c0; have f1 := y0.2.2.1.c1; have f2 := y0.2.2.1.c2; dsimp only at e0 e1 e2 f0 f1 f2; clear y0; go_simp
          first | done | with_reducible rfl
        refine wpAnyH_takeE (i := 4) (some 53) (v := ?_) rfl rfl (by as_aux_lemma => kernel_rfl) (by as_aux_lemma => kernel_rfl) (by as_aux_lemma => kernel_rfl) (fun _ _ _ h => h) (Or.inl ⟨by kernel_rfl, ?_⟩) hS ?_
        rotate_left
        · intro w hSw; have y0 := HY.out _ hSw; have c0 := y0.1.c0; have c1 := y0.1.c1; have e0 := y0.2.1.c0; have e1 := y0.2.1.c1; have e2 := y0.2.1.c2; have f0 := y0.2.2.1.c0; have f1 := y0.2.2.1.c1; have f2 := y0.2.2.1.c2; dsimp only at e0 e1 e2 f0 f1 f2; clear y0; go_simp
          first | done | with_reducible rfl
        refine wpAnyH_takeE (i := 5) (some 54) (v := ?_) rfl rfl (by as_aux_lemma => kernel_rfl) (by as_aux_lemma => kernel_rfl) (by as_aux_lemma => kernel_rfl) (fun _ _ _ h => h) (Or.inl ⟨by kernel_rfl, ?_⟩) hS ?_
        rotate_left
        · intro w hSw; have y0 := HY.out _ hSw; have c0 := y0.1.c0; have c1 := y0.1.c1; have e0 := y0.2.1.c0; have e1 := y0.2.1.c1; have e2 := y0.2.1.c2; have f0 := y0.2.2.1.c0; have f1 := y0.2.2.1.c1; have f2 := y0.2.2.1.c2; dsimp only at e0 e1 e2 f0 f1 f2; clear y0; go_simp
          first | done | with_reducible rfl
        refine wpAnyH_takeE (i := 6) (some 55) (v := ?_) rfl rfl (by as_aux_lemma => kernel_rfl) (by as_aux_lemma => kernel_rfl) (by as_aux_lemma => kernel_rfl) (fun _ _ _ h => h) (Or.inl ⟨by kernel_rfl, ?_⟩) hS ?_
        rotate_left
        · intro w hSw; have y0 := HY.out _ hSw; have c0 := y0.1.c0; have c1 := y0.1.c1; have e0 := y0.2.1.c0; have e1 := y0.2.1.c1; have e2 := y0.2.1.c2; have f0 := y0.2.2.1.c0; have f1 := y0.2.2.1.c1; have f2 := y0.2.2.1.c2; dsimp only at e0 e1 e2 f0 f1 f2; clear y0; go_simp
          first | done | with_reducible rfl
        refine wpAnyH_takeE (i := 7) (some 56) (v := ?_) rfl rfl (by as_aux_lemma => kernel_rfl) (by as_aux_lemma => kernel_rfl) (by as_aux_lemma => kernel_rfl) (fun _ _ _ h => h) (Or.inl ⟨by kernel_rfl, ?_⟩) hS ?_
        rotate_left
        · intro w hSw; have y0 := HY.out _ hSw; have c0 := y0.1.c0; have c1 := y0.1.c1; have e0 := y0.2.1.c0; have e1 := y0.2.1.c1; have e2 := y0.2.1.c2; have f0 := y0.2.2.1.c0; have f1 := y0.2.2.1.c1; have f2 := y0.2.2.1.c2; dsimp only at e0 e1 e2 f0 f1 f2; clear y0; go_simp
          first | done | with_reducible rfl
        refine wpAnyH_takeE (i := 8) (some 57) (v := ?_) rfl rfl (by as_aux_lemma => kernel_rfl) (by as_aux_lemma => kernel_rfl) (by as_aux_lemma => kernel_rfl) (fun _ _ _ h => h) (Or.inl ⟨by kernel_rfl, ?_⟩) hS ?_
        rotate_left
        · intro w hSw; have y0 := HY.out _ hSw; have c0 := y0.1.c0; have c1 := y0.1.c1; have e0 := y0.2.1.c0; have e1 := y0.2.1.c1; have e2 := y0.2.1.c2; have f0 := y0.2.2.1.c0; have f1 := y0.2.2.1.c1; have f2 := y0.2.2.1.c2; dsimp only at e0 e1 e2 f0 f1 f2; clear y0; go_simp
          first | done | with_reducible rfl
        refine wpAnyH_takeE (i := 9) (some 58) (v := ?_) rfl rfl (by as_aux_lemma => kernel_rfl) (by as_aux_lemma => kernel_rfl) (by as_aux_lemma => kernel_rfl) (fun _ _ _ h => h) (Or.inl ⟨by kernel_rfl, ?_⟩) hS ?_
        rotate_left
        · intro w hSw; have y0 := HY.out _ hSw; have c0 := y0.1.c0; have c1 := y0.1.c1; have e0 := y0.2.1.c0; have e1 := y0.2.1.c1; have e2 := y0.2.1.c2; have f0 := y0.2.2.1.c0; have f1 := y0.2.2.1.c1; have f2 := y0.2.2.1.c2; dsimp only at e0 e1 e2 f0 f1 f2; clear y0; go_simp
          first | done | with_reducible rfl
        refine wpAnyH_takeE (i := 10) (some 59) (v := ?_) rfl rfl (by as_aux_lemma => kernel_rfl) (by as_aux_lemma => kernel_rfl) (by as_aux_lemma => kernel_rfl) (fun _ _ _ h => h) (Or.inl ⟨by kernel_rfl, ?_⟩) hS ?_
        rotate_left
        · intro w hSw; have y0 := HY.out _ hSw; have c0 := y0.1.c0; have c1 := y0.1.c1; have e0 := y0.2.1.c0; have e1 := y0.2.1.c1; have e2 := y0.2.1.c2; have f0 := y0.2.2.1.c0; have f1 := y0.2.2.1.c1; have f2 := y0.2.2.1.c2; dsimp only at e0 e1 e2 f0 f1 f2; clear y0; go_simp
          first | done | with_reducible rfl
        refine wpAnyH_takeE (i := 11) (some 60) (v := ?_) rfl rfl (by as_aux_lemma => kernel_rfl) (by as_aux_lemma => kernel_rfl) (by as_aux_lemma => kernel_rfl) (fun _ _ _ h => h) (Or.inl ⟨by kernel_rfl, ?_⟩) hS ?_
        rotate_left
        · intro w hSw; have y0 := HY.out _ hSw; have c0 := y0.1.c0; have c1 := y0.1.c1; have e0 := y0.2.1.c0; have e1 := y0.2.1.c1; have e2 := y0.2.1.c2; have f0 := y0.2.2.1.c0; have f1 := y0.2.2.1.c1; have f2 := y0.2.2.1.c2; dsimp only at e0 e1 e2 f0 f1 f2; clear y0; go_simp
          first | done | with_reducible rfl
        refine wpAnyH_ready (rs := [12]) (by as_aux_lemma => kernel_rfl) (by simp) ?_
        refine AllReadyH.cons rfl (fun K hK => ?_) AllReadyH.nil
        go_simp
        go_wp2_with (go_at_call 14; refine (HXa.out _ hS).mono ?_; rintro e v1 ⟨rfl, q1⟩)
        refine hK.out _ _ ?_ (fun hS => ?_)
        · exact hS.trans (q1.mono hS.size)
        clear hK K
        refine wpAnyH_takeE (i := 13) (some 62) (v := ?_) rfl rfl (by as_aux_lemma => kernel_rfl) (by as_aux_lemma => kernel_rfl) (by as_aux_lemma => kernel_rfl) (fun _ _ _ h => h) (Or.inl ⟨by kernel_rfl, ?_⟩) hS ?_
        rotate_left
        · intro w hSw; have y0 := HY.out _ hSw; have c0 := y0.1.c0; have c1 := y0.1.c1; have e0 := y0.2.1.c0; have e1 := y0.2.1.c1; have e2 := y0.2.1.c2; have f0 := y0.2.2.1.c0; have f1 := y0.2.2.1.c1; have f2 := y0.2.2.1.c2; dsimp only at e0 e1 e2 f0 f1 f2; clear y0; go_simp
          first | done | with_reducible rfl
        refine wpAnyH_takeE (i := 14) (some 63) (v := ?_) rfl rfl (by as_aux_lemma => kernel_rfl) (by as_aux_lemma => kernel_rfl) (by as_aux_lemma => kernel_rfl) (fun _ _ _ h => h) (Or.inl ⟨by kernel_rfl, ?_⟩) hS ?_
        rotate_left
        · intro w hSw; have y0 := HY.out _ hSw; have c0 := y0.1.c0; have c1 := y0.1.c1; have e0 := y0.2.1.c0; have e1 := y0.2.1.c1; have e2 := y0.2.1.c2; have f0 := y0.2.2.1.c0; have f1 := y0.2.2.1.c1; have f2 := y0.2.2.1.c2; dsimp only at e0 e1 e2 f0 f1 f2; clear y0; go_simp
          first | done | with_reducible rfl
        refine wpAnyH_takeE (i := 15) (some 64) (v := ?_) rfl rfl (by as_aux_lemma => kernel_rfl) (by as_aux_lemma => kernel_rfl) (by as_aux_lemma => kernel_rfl) (fun _ _ _ h => h) (Or.inl ⟨by kernel_rfl, ?_⟩) hS ?_
        rotate_left
        · intro w hSw; have y0 := HY.out _ hSw; have c0 := y0.1.c0; have c1 := y0.1.c1; have e0 := y0.2.1.c0; have e1 := y0.2.1.c1; have e2 := y0.2.1.c2; have f0 := y0.2.2.1.c0; have f1 := y0.2.2.1.c1; have f2 := y0.2.2.1.c2; dsimp only at e0 e1 e2 f0 f1 f2; clear y0; go_simp
          first | done | with_reducible rfl
        refine wpAnyH_takeE (i := 16) (some 65) (v := ?_) rfl rfl (by as_aux_lemma => kernel_rfl) (by as_aux_lemma => kernel_rfl) (by as_aux_lemma => kernel_rfl) (fun _ _ _ h => h) (Or.inl ⟨by kernel_rfl, ?_⟩) hS ?_
        rotate_left
        · intro w hSw; have y0 := HY.out _ hSw; have c0 := y0.1.c0; have c1 := y0.1.c1; have e0 := y0.2.1.c0; have e1 := y0.2.1.c1; have e2 := y0.2.1.c2; have f0 := y0.2.2.1.c0; have f1 := y0.2.2.1.c1; have f2 := y0.2.2.1.c2; dsimp only at e0 e1 e2 f0 f1 f2; clear y0; go_simp
          first | done | with_reducible rfl
        refine wpAnyH_takeE (i := 17) (some 66) (v := ?_) rfl rfl (by as_aux_lemma => kernel_rfl) (by as_aux_lemma => kernel_rfl) (by as_aux_lemma => kernel_rfl) (fun _ _ _ h => h) (Or.inl ⟨by kernel_rfl, ?_⟩) hS ?_
        rotate_left
        · intro w hSw; have y0 := HY.out _ hSw; have c0 := y0.1.c0; have c1 := y0.1.c1; have e0 := y0.2.1.c0; have e1 := y0.2.1.c1; have e2 := y0.2.1.c2; have f0 := y0.2.2.1.c0; have f1 := y0.2.2.1.c1; have f2 := y0.2.2.1.c2; dsimp only at e0 e1 e2 f0 f1 f2; clear y0; go_simp
          first | done | with_reducible rfl
        refine wpAnyH_takeE (i := 18) (some 67) (v := ?_) rfl rfl (by as_aux_lemma => kernel_rfl) (by as_aux_lemma => kernel_rfl) (by as_aux_lemma => kernel_rfl) (fun _ _ _ h => h) (Or.inl ⟨by kernel_rfl, ?_⟩) hS ?_
        rotate_left
        · intro w hSw; have y0 := HY.out _ hSw; have c0 := y0.1.c0; have c1 := y0.1.c1; have e0 := y0.2.1.c0; have e1 := y0.2.1.c1; have e2 := y0.2.1.c2; have f0 := y0.2.2.1.c0; have f1 := y0.2.2.1.c1; have f2 := y0.2.2.1.c2; dsimp only at e0 e1 e2 f0 f1 f2; clear y0; go_simp
          first | done | with_reducible rfl
        refine wpAnyH_takeE (i := 19) (some 68) (v := undef) rfl rfl (by as_aux_lemma => kernel_rfl) (by as_aux_lemma => kernel_rfl) (by as_aux_lemma => kernel_rfl) (fun _ _ _ h => h) (Or.inr ⟨by kernel_rfl, rfl⟩) hS ?_
        refine wpAnyH_takeE (i := 20) (some 69) (v := undef) rfl rfl (by as_aux_lemma => kernel_rfl) (by as_aux_lemma => kernel_rfl) (by as_aux_lemma => kernel_rfl) (fun _ _ _ h => h) (Or.inr ⟨by kernel_rfl, rfl⟩) hS ?_
        refine wpAnyH_takeE (i := 21) (some 70) (v := undef) rfl rfl (by as_aux_lemma => kernel_rfl) (by as_aux_lemma => kernel_rfl) (by as_aux_lemma => kernel_rfl) (fun _ _ _ h => h) (Or.inr ⟨by kernel_rfl, rfl⟩) hS ?_
        refine wpAnyH_takeE (i := 22) (some 71) (v := undef) rfl rfl (by as_aux_lemma => kernel_rfl) (by as_aux_lemma => kernel_rfl) (by as_aux_lemma => kernel_rfl) (fun _ _ _ h => h) (Or.inr ⟨by kernel_rfl, rfl⟩) hS ?_
        refine wpAnyH_takeE (i := 23) (some 72) (v := undef) rfl rfl (by as_aux_lemma => kernel_rfl) (by as_aux_lemma => kernel_rfl) (by as_aux_lemma => kernel_rfl) (fun _ _ _ h => h) (Or.inr ⟨by kernel_rfl, rfl⟩) hS ?_
        refine wpAnyH_takeE (i := 24) (some 73) (v := undef) rfl rfl (by as_aux_lemma => kernel_rfl) (by as_aux_lemma => kernel_rfl) (by as_aux_lemma => kernel_rfl) (fun _ _ _ h => h) (Or.inr ⟨by kernel_rfl, rfl⟩) hS ?_
        refine wpAnyH_takeE (i := 25) (some 74) (v := undef) rfl rfl (by as_aux_lemma => kernel_rfl) (by as_aux_lemma => kernel_rfl) (by as_aux_lemma => kernel_rfl) (fun _ _ _ h => h) (Or.inr ⟨by kernel_rfl, rfl⟩) hS ?_
        refine wpAnyH_takeE (i := 26) (some 75) (v := undef) rfl rfl (by as_aux_lemma => kernel_rfl) (by as_aux_lemma => kernel_rfl) (by as_aux_lemma => kernel_rfl) (fun _ _ _ h => h) (Or.inr ⟨by kernel_rfl, rfl⟩) hS ?_
        refine wpAnyH_takeE (i := 27) (some 76) (v := undef) rfl rfl (by as_aux_lemma => kernel_rfl) (by as_aux_lemma => kernel_rfl) (by as_aux_lemma => kernel_rfl) (fun _ _ _ h => h) (Or.inr ⟨by kernel_rfl, rfl⟩) hS ?_
        refine wpAnyH_takeE (i := 28) (some 77) (v := undef) rfl rfl (by as_aux_lemma => kernel_rfl) (by as_aux_lemma => kernel_rfl) (by as_aux_lemma => kernel_rfl) (fun _ _ _ h => h) (Or.inr ⟨by kernel_rfl, rfl⟩) hS ?_
        refine wpAnyH_takeE (i := 29) (some 78) (v := undef) rfl rfl (by as_aux_lemma => kernel_rfl) (by as_aux_lemma => kernel_rfl) (by as_aux_lemma => kernel_rfl) (fun _ _ _ h => h) (Or.inr ⟨by kernel_rfl, rfl⟩) hS ?_
        refine wpAnyH_takeE (i := 30) (some 79) (v := undef) rfl rfl (by as_aux_lemma => kernel_rfl) (by as_aux_lemma => kernel_rfl) (by as_aux_lemma => kernel_rfl) (fun _ _ _ h => h) (Or.inr ⟨by kernel_rfl, rfl⟩) hS ?_
        refine wpAnyH_takeE (i := 31) (some 80) (v := undef) rfl rfl (by as_aux_lemma => kernel_rfl) (by as_aux_lemma => kernel_rfl) (by as_aux_lemma => kernel_rfl) (fun _ _ _ h => h) (Or.inr ⟨by kernel_rfl, rfl⟩) hS ?_
        refine wpAnyH_takeE (i := 32) (some 81) (v := undef) rfl rfl (by as_aux_lemma => kernel_rfl) (by as_aux_lemma => kernel_rfl) (by as_aux_lemma => kernel_rfl) (fun _ _ _ h => h) (Or.inr ⟨by kernel_rfl, rfl⟩) hS ?_
        refine wpAnyH_takeE (i := 33) (some 82) (v := undef) rfl rfl (by as_aux_lemma => kernel_rfl) (by as_aux_lemma => kernel_rfl) (by as_aux_lemma => kernel_rfl) (fun _ _ _ h => h) (Or.inr ⟨by kernel_rfl, rfl⟩) hS ?_
        refine wpAnyH_takeE (i := 34) (some 83) (v := undef) rfl rfl (by as_aux_lemma => kernel_rfl) (by as_aux_lemma => kernel_rfl) (by as_aux_lemma => kernel_rfl) (fun _ _ _ h => h) (Or.inr ⟨by kernel_rfl, rfl⟩) hS ?_
        refine wpAnyH_takeE (i := 35) (some 84) (v := undef) rfl rfl (by as_aux_lemma => kernel_rfl) (by as_aux_lemma => kernel_rfl) (by as_aux_lemma => kernel_rfl) (fun _ _ _ h => h) (Or.inr ⟨by kernel_rfl, rfl⟩) hS ?_
        refine wpAnyH_takeE (i := 36) (some 85) (v := undef) rfl rfl (by as_aux_lemma => kernel_rfl) (by as_aux_lemma => kernel_rfl) (by as_aux_lemma => kernel_rfl) (fun _ _ _ h => h) (Or.inr ⟨by kernel_rfl, rfl⟩) hS ?_
        refine wpAnyH_takeE (i := 37) (some 86) (v := undef) rfl rfl (by as_aux_lemma => kernel_rfl) (by as_aux_lemma => kernel_rfl) (by as_aux_lemma => kernel_rfl) (fun _ _ _ h => h) (Or.inr ⟨by kernel_rfl, rfl⟩) hS ?_
        refine wpAnyH_takeE (i := 38) (some 87) (v := undef) rfl rfl (by as_aux_lemma => kernel_rfl) (by as_aux_lemma => kernel_rfl) (by as_aux_lemma => kernel_rfl) (fun _ _ _ h => h) (Or.inr ⟨by kernel_rfl, rfl⟩) hS ?_
        refine wpAnyH_takeE (i := 39) (some 88) (v := undef) rfl rfl (by as_aux_lemma => kernel_rfl) (by as_aux_lemma => kernel_rfl) (by as_aux_lemma => kernel_rfl) (fun _ _ _ h => h) (Or.inr ⟨by kernel_rfl, rfl⟩) hS ?_
        refine wpAnyH_takeE (i := 40) (some 89) (v := ?_) rfl rfl (by as_aux_lemma => kernel_rfl) (by as_aux_lemma => kernel_rfl) (by as_aux_lemma => kernel_rfl) (fun _ _ _ h => h) (Or.inl ⟨by kernel_rfl, ?_⟩) hS ?_
        rotate_left
        · intro w hSw; have y0 := HY.out _ hSw; have c0 := y0.1.c0; have c1 := y0.1.c1; have e0 := y0.2.1.c0; have e1 := y0.2.1.c1; have e2 := y0.2.1.c2; have f0 := y0.2.2.1.c0; have f1 := y0.2.2.1.c1; have f2 := y0.2.2.1.c2; dsimp only at e0 e1 e2 f0 f1 f2; clear y0; go_simp
          first | done | with_reducible rfl
        refine wpAnyH_takeE (i := 41) (some 90) (v := ?_) rfl rfl (by as_aux_lemma => kernel_rfl) (by as_aux_lemma => kernel_rfl) (by as_aux_lemma => kernel_rfl) (fun _ _ _ h => h) (Or.inl ⟨by kernel_rfl, ?_⟩) hS ?_
        rotate_left
        · intro w hSw; have y0 := HY.out _ hSw; have c0 := y0.1.c0; have c1 := y0.1.c1; have e0 := y0.2.1.c0; have e1 := y0.2.1.c1; have e2 := y0.2.1.c2; have f0 := y0.2.2.1.c0; have f1 := y0.2.2.1.c1; have f2 := y0.2.2.1.c2; dsimp only at e0 e1 e2 f0 f1 f2; clear y0; go_simp
          first | done | with_reducible rfl
        refine wpAnyH_done (by kernel_rfl) ?_ _
        have HE : Hid (∃ T a8 n8 c8, HSt W v1 s B8 T a8 n8 c8) := Lib.hid ⟨_, _, _, _, HST.out.1.on hS⟩
        clear HST hS q1 HXa HY
        go_simp
        go_wp2
        go_roundw
        case rel => exact ⟨1, by omega, by go_num, HE⟩
        case measure => simp [intOf]; omega
      case neg =>
        obtain ⟨j, hj⟩ : ∃ j, i = j + 1 := ⟨i - 1, by omega⟩
        obtain ⟨pm, hpm⟩ := HPr.out j hj
        have HPm := Lib.hid hpm
        have hi1 : (0 : Int) < (i : Int) := by omega
        have hi2 : 0 < i := by omega
        have hi3 : decide (0 < i) = true := decide_eq_true hi2
        have hij : (i : Int) - 1 = (j : Int) := by omega
        have hjn : (j : Int) < (n : Int) := by omega
        have hjw : IntKind.i64.wrap (j : Int) = (j : Int) := by rw [IntKind.wrap_i64]; omega
        have hjw2 : wrap64 (j : Int) = (j : Int) := by unfold wrap64; omega
        clear HPr hpm hj
        obtain ⟨pn, ps, pi⟩ := pm
        dsimp only at HPm
        have HA1 := Lib.hid (fun u => bAbove_any ⟨mn, ms, mi⟩ ⟨pn, ps, pi⟩ u)
        have HB1 := Lib.hid (fun u => brAbove_any ⟨mn, ms, mi⟩ ⟨pn, ps, pi⟩ u)
        dsimp only at HA1 HB1
        generalize aboveM ⟨mn, ms, mi⟩ ⟨pn, ps, pi⟩ = ab at *
        refine wp_region_any (by kernel_rfl) ?_
        change wpAny _ _ _ _ _ _ _ (World.drew _)
        have hS : (fun w' : World => Below w9.heap.size w9 w') w9.drew := (Below.refl _ w9).drew
        refine wpAny_of_held (S := fun w' => Below w9.heap.size w9 w') _ _ _ _ ?_
        refine wpAnyH_takeE (i := 0) (some 49) (v := ?_) rfl rfl (by as_aux_lemma => kernel_rfl) (by as_aux_lemma => kernel_rfl) (by as_aux_lemma => kernel_rfl) (fun _ _ _ h => h) (Or.inl ⟨by kernel_rfl, ?_⟩) hS ?_
        rotate_left
        · intro w hSw; have y0 := HY.out _ hSw; have c0 := y0.1.c0; have c1 := y0.1.c1; have e0 := y0.2.1.c0; have e1 := y0.2.1.c1; have e2 := y0.2.1.c2; have f0 := y0.2.2.1.c0; have f1 := y0.2.2.1.c1; have f2 := y0.2.2.1.c2; dsimp only at e0 e1 e2 f0 f1 f2; obtain ⟨d0, d1, d2⟩ := HC.out _ y0.2.2.2; obtain ⟨p0, p1, p2⟩ := HPm.out _ y0.2.2.2; clear y0; go_simp
          first | done | with_reducible rfl
        refine wpAnyH_takeE (i := 1) (some 50) (v := ?_) rfl rfl (by as_aux_lemma => kernel_rfl) (by as_aux_lemma => kernel_rfl) (by as_aux_lemma => kernel_rfl) (fun _ _ _ h => h) (Or.inl ⟨by kernel_rfl, ?_⟩) hS ?_
        rotate_left
        · intro w hSw; have y0 := HY.out _ hSw; have c0 := y0.1.c0; have c1 := y0.1.c1; have e0 := y0.2.1.c0; have e1 := y0.2.1.c1; have e2 := y0.2.1.c2; have f0 := y0.2.2.1.c0; have f1 := y0.2.2.1.c1; have f2 := y0.2.2.1.c2; dsimp only at e0 e1 e2 f0 f1 f2; obtain ⟨d0, d1, d2⟩ := HC.out _ y0.2.2.2; obtain ⟨p0, p1, p2⟩ := HPm.out _ y0.2.2.2; clear y0; go_simp
          first | done | with_reducible rfl
        refine wpAnyH_takeE (i := 2) (some 51) (v := ?_) rfl rfl (by as_aux_lemma => kernel_rfl) (by as_aux_lemma => kernel_rfl) (by as_aux_lemma => kernel_rfl) (fun _ _ _ h => h) (Or.inl ⟨by kernel_rfl, ?_⟩) hS ?_
        rotate_left
        · intro w hSw; have y0 := HY.out _ hSw; have c0 := y0.1.c0; have c1 := y0.1.c1; have e0 := y0.2.1.c0; have e1 := y0.2.1.c1; have e2 := y0.2.1.c2; have f0 := y0.2.2.1.c0; have f1 := y0.2.2.1.c1; have f2 := y0.2.2.1.c2; dsimp only at e0 e1 e2 f0 f1 f2; obtain ⟨d0, d1, d2⟩ := HC.out _ y0.2.2.2; obtain ⟨p0, p1, p2⟩ := HPm.out _ y0.2.2.2; clear y0; go_simp
          first | done | with_reducible rfl
        refine wpAnyH_takeE (i := 3) (some 52) (v := ?_) rfl rfl (by as_aux_lemma => kernel_rfl) (by as_aux_lemma => kernel_rfl) (by as_aux_lemma => kernel_rfl) (fun _ _ _ h => h) (Or.inl ⟨by kernel_rfl, ?_⟩) hS ?_
        rotate_left
        · intro w hSw; have y0 := HY.out _ hSw; have c0 := y0.1.c0; have c1 := y0.1.c1; have e0 := y0.2.1.c0; have e1 := y0.2.1.c1; have e2 := y0.2.1.c2; have f0 := y0.2.2.1.c0; have f1 := y0.2.2.1.c1; have f2 := y0.2.2.1.c2; dsimp only at e0 e1 e2 f0 f1 f2; obtain ⟨d0, d1, d2⟩ := HC.out _ y0.2.2.2; obtain ⟨p0, p1, p2⟩ := HPm.out _ y0.2.2.2; clear y0; go_simp
          first | done | with_reducible rfl
        refine wpAnyH_takeE (i := 4) (some 53) (v := ?_) rfl rfl (by as_aux_lemma => kernel_rfl) (by as_aux_lemma => kernel_rfl) (by as_aux_lemma => kernel_rfl) (fun _ _ _ h => h) (Or.inl ⟨by kernel_rfl, ?_⟩) hS ?_
        rotate_left
        · intro w hSw; have y0 := HY.out _ hSw; have c0 := y0.1.c0; have c1 := y0.1.c1; have e0 := y0.2.1.c0; have e1 := y0.2.1.c1; have e2 := y0.2.1.c2; have f0 := y0.2.2.1.c0; have f1 := y0.2.2.1.c1; have f2 := y0.2.2.1.c2; dsimp only at e0 e1 e2 f0 f1 f2; obtain ⟨d0, d1, d2⟩ := HC.out _ y0.2.2.2; obtain ⟨p0, p1, p2⟩ := HPm.out _ y0.2.2.2; clear y0; go_simp
          first | done | with_reducible rfl
        refine wpAnyH_takeE (i := 5) (some 54) (v := ?_) rfl rfl (by as_aux_lemma => kernel_rfl) (by as_aux_lemma => kernel_rfl) (by as_aux_lemma => kernel_rfl) (fun _ _ _ h => h) (Or.inl ⟨by kernel_rfl, ?_⟩) hS ?_
        rotate_left
        · intro w hSw; have y0 := HY.out _ hSw; have c0 := y0.1.c0; have c1 := y0.1.c1; have e0 := y0.2.1.c0; have e1 := y0.2.1.c1; have e2 := y0.2.1.c2; have f0 := y0.2.2.1.c0; have f1 := y0.2.2.1.c1; have f2 := y0.2.2.1.c2; dsimp only at e0 e1 e2 f0 f1 f2; obtain ⟨d0, d1, d2⟩ := HC.out _ y0.2.2.2; obtain ⟨p0, p1, p2⟩ := HPm.out _ y0.2.2.2; clear y0; go_simp
          first | done | with_reducible rfl
        refine wpAnyH_takeE (i := 6) (some 55) (v := ?_) rfl rfl (by as_aux_lemma => kernel_rfl) (by as_aux_lemma => kernel_rfl) (by as_aux_lemma => kernel_rfl) (fun _ _ _ h => h) (Or.inl ⟨by kernel_rfl, ?_⟩) hS ?_
        rotate_left
        · intro w hSw; have y0 := HY.out _ hSw; have c0 := y0.1.c0; have c1 := y0.1.c1; have e0 := y0.2.1.c0; have e1 := y0.2.1.c1; have e2 := y0.2.1.c2; have f0 := y0.2.2.1.c0; have f1 := y0.2.2.1.c1; have f2 := y0.2.2.1.c2; dsimp only at e0 e1 e2 f0 f1 f2; obtain ⟨d0, d1, d2⟩ := HC.out _ y0.2.2.2; obtain ⟨p0, p1, p2⟩ := HPm.out _ y0.2.2.2; clear y0; go_simp
          first | done | with_reducible rfl
        refine wpAnyH_takeE (i := 7) (some 56) (v := ?_) rfl rfl (by as_aux_lemma => kernel_rfl) (by as_aux_lemma => kernel_rfl) (by as_aux_lemma => kernel_rfl) (fun _ _ _ h => h) (Or.inl ⟨by kernel_rfl, ?_⟩) hS ?_
        rotate_left
        · intro w hSw; have y0 := HY.out _ hSw; have c0 := y0.1.c0; have c1 := y0.1.c1; have e0 := y0.2.1.c0; have e1 := y0.2.1.c1; have e2 := y0.2.1.c2; have f0 := y0.2.2.1.c0; have f1 := y0.2.2.1.c1; have f2 := y0.2.2.1.c2; dsimp only at e0 e1 e2 f0 f1 f2; obtain ⟨d0, d1, d2⟩ := HC.out _ y0.2.2.2; obtain ⟨p0, p1, p2⟩ := HPm.out _ y0.2.2.2; clear y0; go_simp
          first | done | with_reducible rfl
        refine wpAnyH_takeE (i := 8) (some 57) (v := ?_) rfl rfl (by as_aux_lemma => kernel_rfl) (by as_aux_lemma => kernel_rfl) (by as_aux_lemma => kernel_rfl) (fun _ _ _ h => h) (Or.inl ⟨by kernel_rfl, ?_⟩) hS ?_
        rotate_left
        · intro w hSw; have y0 := HY.out _ hSw; have c0 := y0.1.c0; have c1 := y0.1.c1; have e0 := y0.2.1.c0; have e1 := y0.2.1.c1; have e2 := y0.2.1.c2; have f0 := y0.2.2.1.c0; have f1 := y0.2.2.1.c1; have f2 := y0.2.2.1.c2; dsimp only at e0 e1 e2 f0 f1 f2; obtain ⟨d0, d1, d2⟩ := HC.out _ y0.2.2.2; obtain ⟨p0, p1, p2⟩ := HPm.out _ y0.2.2.2; clear y0; go_simp
          first | done | with_reducible rfl
        refine wpAnyH_takeE (i := 9) (some 58) (v := ?_) rfl rfl (by as_aux_lemma => kernel_rfl) (by as_aux_lemma => kernel_rfl) (by as_aux_lemma => kernel_rfl) (fun _ _ _ h => h) (Or.inl ⟨by kernel_rfl, ?_⟩) hS ?_
        rotate_left
        · intro w hSw; have y0 := HY.out _ hSw; have c0 := y0.1.c0; have c1 := y0.1.c1; have e0 := y0.2.1.c0; have e1 := y0.2.1.c1; have e2 := y0.2.1.c2; have f0 := y0.2.2.1.c0; have f1 := y0.2.2.1.c1; have f2 := y0.2.2.1.c2; dsimp only at e0 e1 e2 f0 f1 f2; obtain ⟨d0, d1, d2⟩ := HC.out _ y0.2.2.2; obtain ⟨p0, p1, p2⟩ := HPm.out _ y0.2.2.2; clear y0; go_simp
          first | done | with_reducible rfl
        refine wpAnyH_takeE (i := 10) (some 59) (v := ?_) rfl rfl (by as_aux_lemma => kernel_rfl) (by as_aux_lemma => kernel_rfl) (by as_aux_lemma => kernel_rfl) (fun _ _ _ h => h) (Or.inl ⟨by kernel_rfl, ?_⟩) hS ?_
        rotate_left
        · intro w hSw; have y0 := HY.out _ hSw; have c0 := y0.1.c0; have c1 := y0.1.c1; have e0 := y0.2.1.c0; have e1 := y0.2.1.c1; have e2 := y0.2.1.c2; have f0 := y0.2.2.1.c0; have f1 := y0.2.2.1.c1; have f2 := y0.2.2.1.c2; dsimp only at e0 e1 e2 f0 f1 f2; obtain ⟨d0, d1, d2⟩ := HC.out _ y0.2.2.2; obtain ⟨p0, p1, p2⟩ := HPm.out _ y0.2.2.2; clear y0; go_simp
          first | done | with_reducible rfl
        refine wpAnyH_takeE (i := 11) (some 60) (v := ?_) rfl rfl (by as_aux_lemma => kernel_rfl) (by as_aux_lemma => kernel_rfl) (by as_aux_lemma => kernel_rfl) (fun _ _ _ h => h) (Or.inl ⟨by kernel_rfl, ?_⟩) hS ?_
        rotate_left
        · intro w hSw; have y0 := HY.out _ hSw; have c0 := y0.1.c0; have c1 := y0.1.c1; have e0 := y0.2.1.c0; have e1 := y0.2.1.c1; have e2 := y0.2.1.c2; have f0 := y0.2.2.1.c0; have f1 := y0.2.2.1.c1; have f2 := y0.2.2.1.c2; dsimp only at e0 e1 e2 f0 f1 f2; obtain ⟨d0, d1, d2⟩ := HC.out _ y0.2.2.2; obtain ⟨p0, p1, p2⟩ := HPm.out _ y0.2.2.2; clear y0; go_simp
          first | done | with_reducible rfl
        refine wpAnyH_ready (rs := [12]) (by as_aux_lemma => kernel_rfl) (by simp) ?_
        refine AllReadyH.cons rfl (fun K hK => ?_) AllReadyH.nil
        go_simp
        go_wp2_with (go_at_call 14; refine (HXa.out _ hS).mono ?_; rintro e v1 ⟨rfl, q1⟩)
        refine hK.out _ _ ?_ (fun hS => ?_)
        · exact hS.trans (q1.mono hS.size)
        clear hK K
        refine wpAnyH_takeE (i := 13) (some 62) (v := ?_) rfl rfl (by as_aux_lemma => kernel_rfl) (by as_aux_lemma => kernel_rfl) (by as_aux_lemma => kernel_rfl) (fun _ _ _ h => h) (Or.inl ⟨by kernel_rfl, ?_⟩) hS ?_
        rotate_left
        · intro w hSw; have y0 := HY.out _ hSw; have c0 := y0.1.c0; have c1 := y0.1.c1; have e0 := y0.2.1.c0; have e1 := y0.2.1.c1; have e2 := y0.2.1.c2; have f0 := y0.2.2.1.c0; have f1 := y0.2.2.1.c1; have f2 := y0.2.2.1.c2; dsimp only at e0 e1 e2 f0 f1 f2; obtain ⟨d0, d1, d2⟩ := HC.out _ y0.2.2.2; obtain ⟨p0, p1, p2⟩ := HPm.out _ y0.2.2.2; clear y0; go_simp
          first | done | with_reducible rfl
        refine wpAnyH_takeE (i := 14) (some 63) (v := ?_) rfl rfl (by as_aux_lemma => kernel_rfl) (by as_aux_lemma => kernel_rfl) (by as_aux_lemma => kernel_rfl) (fun _ _ _ h => h) (Or.inl ⟨by kernel_rfl, ?_⟩) hS ?_
        rotate_left
        · intro w hSw; have y0 := HY.out _ hSw; have c0 := y0.1.c0; have c1 := y0.1.c1; have e0 := y0.2.1.c0; have e1 := y0.2.1.c1; have e2 := y0.2.1.c2; have f0 := y0.2.2.1.c0; have f1 := y0.2.2.1.c1; have f2 := y0.2.2.1.c2; dsimp only at e0 e1 e2 f0 f1 f2; obtain ⟨d0, d1, d2⟩ := HC.out _ y0.2.2.2; obtain ⟨p0, p1, p2⟩ := HPm.out _ y0.2.2.2; clear y0; go_simp
          first | done | with_reducible rfl
        refine wpAnyH_takeE (i := 15) (some 64) (v := ?_) rfl rfl (by as_aux_lemma => kernel_rfl) (by as_aux_lemma => kernel_rfl) (by as_aux_lemma => kernel_rfl) (fun _ _ _ h => h) (Or.inl ⟨by kernel_rfl, ?_⟩) hS ?_
        rotate_left
        · intro w hSw; have y0 := HY.out _ hSw; have c0 := y0.1.c0; have c1 := y0.1.c1; have e0 := y0.2.1.c0; have e1 := y0.2.1.c1; have e2 := y0.2.1.c2; have f0 := y0.2.2.1.c0; have f1 := y0.2.2.1.c1; have f2 := y0.2.2.1.c2; dsimp only at e0 e1 e2 f0 f1 f2; obtain ⟨d0, d1, d2⟩ := HC.out _ y0.2.2.2; obtain ⟨p0, p1, p2⟩ := HPm.out _ y0.2.2.2; clear y0; go_simp
          first | done | with_reducible rfl
        refine wpAnyH_takeE (i := 16) (some 65) (v := ?_) rfl rfl (by as_aux_lemma => kernel_rfl) (by as_aux_lemma => kernel_rfl) (by as_aux_lemma => kernel_rfl) (fun _ _ _ h => h) (Or.inl ⟨by kernel_rfl, ?_⟩) hS ?_
        rotate_left
        · intro w hSw; have y0 := HY.out _ hSw; have c0 := y0.1.c0; have c1 := y0.1.c1; have e0 := y0.2.1.c0; have e1 := y0.2.1.c1; have e2 := y0.2.1.c2; have f0 := y0.2.2.1.c0; have f1 := y0.2.2.1.c1; have f2 := y0.2.2.1.c2; dsimp only at e0 e1 e2 f0 f1 f2; obtain ⟨d0, d1, d2⟩ := HC.out _ y0.2.2.2; obtain ⟨p0, p1, p2⟩ := HPm.out _ y0.2.2.2; clear y0; go_simp
          first | done | with_reducible rfl
        refine wpAnyH_takeE (i := 17) (some 66) (v := ?_) rfl rfl (by as_aux_lemma => kernel_rfl) (by as_aux_lemma => kernel_rfl) (by as_aux_lemma => kernel_rfl) (fun _ _ _ h => h) (Or.inl ⟨by kernel_rfl, ?_⟩) hS ?_
        rotate_left
        · intro w hSw; have y0 := HY.out _ hSw; have c0 := y0.1.c0; have c1 := y0.1.c1; have e0 := y0.2.1.c0; have e1 := y0.2.1.c1; have e2 := y0.2.1.c2; have f0 := y0.2.2.1.c0; have f1 := y0.2.2.1.c1; have f2 := y0.2.2.1.c2; dsimp only at e0 e1 e2 f0 f1 f2; obtain ⟨d0, d1, d2⟩ := HC.out _ y0.2.2.2; obtain ⟨p0, p1, p2⟩ := HPm.out _ y0.2.2.2; clear y0; go_simp
          first | done | with_reducible rfl
        refine wpAnyH_takeE (i := 18) (some 67) (v := ?_) rfl rfl (by as_aux_lemma => kernel_rfl) (by as_aux_lemma => kernel_rfl) (by as_aux_lemma => kernel_rfl) (fun _ _ _ h => h) (Or.inl ⟨by kernel_rfl, ?_⟩) hS ?_
        rotate_left
        · intro w hSw; have y0 := HY.out _ hSw; have c0 := y0.1.c0; have c1 := y0.1.c1; have e0 := y0.2.1.c0; have e1 := y0.2.1.c1; have e2 := y0.2.1.c2; have f0 := y0.2.2.1.c0; have f1 := y0.2.2.1.c1; have f2 := y0.2.2.1.c2; dsimp only at e0 e1 e2 f0 f1 f2; obtain ⟨d0, d1, d2⟩ := HC.out _ y0.2.2.2; obtain ⟨p0, p1, p2⟩ := HPm.out _ y0.2.2.2; clear y0; go_simp
          first | done | with_reducible rfl
        refine wpAnyH_takeE (i := 19) (some 68) (v := ?_) rfl rfl (by as_aux_lemma => kernel_rfl) (by as_aux_lemma => kernel_rfl) (by as_aux_lemma => kernel_rfl) (fun _ _ _ h => h) (Or.inl ⟨by kernel_rfl, ?_⟩) hS ?_
        rotate_left
        · intro w hSw; have y0 := HY.out _ hSw; have c0 := y0.1.c0; have c1 := y0.1.c1; have e0 := y0.2.1.c0; have e1 := y0.2.1.c1; have e2 := y0.2.1.c2; have f0 := y0.2.2.1.c0; have f1 := y0.2.2.1.c1; have f2 := y0.2.2.1.c2; dsimp only at e0 e1 e2 f0 f1 f2; obtain ⟨d0, d1, d2⟩ := HC.out _ y0.2.2.2; obtain ⟨p0, p1, p2⟩ := HPm.out _ y0.2.2.2; clear y0; go_simp
          first | done | with_reducible rfl
        refine wpAnyH_takeE (i := 20) (some 69) (v := ?_) rfl rfl (by as_aux_lemma => kernel_rfl) (by as_aux_lemma => kernel_rfl) (by as_aux_lemma => kernel_rfl) (fun _ _ _ h => h) (Or.inl ⟨by kernel_rfl, ?_⟩) hS ?_
        rotate_left
        · intro w hSw; have y0 := HY.out _ hSw; have c0 := y0.1.c0; have c1 := y0.1.c1; have e0 := y0.2.1.c0; have e1 := y0.2.1.c1; have e2 := y0.2.1.c2; have f0 := y0.2.2.1.c0; have f1 := y0.2.2.1.c1; have f2 := y0.2.2.1.c2; dsimp only at e0 e1 e2 f0 f1 f2; obtain ⟨d0, d1, d2⟩ := HC.out _ y0.2.2.2; obtain ⟨p0, p1, p2⟩ := HPm.out _ y0.2.2.2; clear y0; go_simp
          first | done | with_reducible rfl
        refine wpAnyH_takeE (i := 21) (some 70) (v := ?_) rfl rfl (by as_aux_lemma => kernel_rfl) (by as_aux_lemma => kernel_rfl) (by as_aux_lemma => kernel_rfl) (fun _ _ _ h => h) (Or.inl ⟨by kernel_rfl, ?_⟩) hS ?_
        rotate_left
        · intro w hSw; have y0 := HY.out _ hSw; have c0 := y0.1.c0; have c1 := y0.1.c1; have e0 := y0.2.1.c0; have e1 := y0.2.1.c1; have e2 := y0.2.1.c2; have f0 := y0.2.2.1.c0; have f1 := y0.2.2.1.c1; have f2 := y0.2.2.1.c2; dsimp only at e0 e1 e2 f0 f1 f2; obtain ⟨d0, d1, d2⟩ := HC.out _ y0.2.2.2; obtain ⟨p0, p1, p2⟩ := HPm.out _ y0.2.2.2; clear y0; go_simp
          first | done | with_reducible rfl
        refine wpAnyH_takeE (i := 22) (some 71) (v := ?_) rfl rfl (by as_aux_lemma => kernel_rfl) (by as_aux_lemma => kernel_rfl) (by as_aux_lemma => kernel_rfl) (fun _ _ _ h => h) (Or.inl ⟨by kernel_rfl, ?_⟩) hS ?_
        rotate_left
        · intro w hSw; have y0 := HY.out _ hSw; have c0 := y0.1.c0; have c1 := y0.1.c1; have e0 := y0.2.1.c0; have e1 := y0.2.1.c1; have e2 := y0.2.1.c2; have f0 := y0.2.2.1.c0; have f1 := y0.2.2.1.c1; have f2 := y0.2.2.1.c2; dsimp only at e0 e1 e2 f0 f1 f2; obtain ⟨d0, d1, d2⟩ := HC.out _ y0.2.2.2; obtain ⟨p0, p1, p2⟩ := HPm.out _ y0.2.2.2; clear y0; go_simp
          first | done | with_reducible rfl
        refine wpAnyH_takeE (i := 23) (some 72) (v := ?_) rfl rfl (by as_aux_lemma => kernel_rfl) (by as_aux_lemma => kernel_rfl) (by as_aux_lemma => kernel_rfl) (fun _ _ _ h => h) (Or.inl ⟨by kernel_rfl, ?_⟩) hS ?_
        rotate_left
        · intro w hSw; have y0 := HY.out _ hSw; have c0 := y0.1.c0; have c1 := y0.1.c1; have e0 := y0.2.1.c0; have e1 := y0.2.1.c1; have e2 := y0.2.1.c2; have f0 := y0.2.2.1.c0; have f1 := y0.2.2.1.c1; have f2 := y0.2.2.1.c2; dsimp only at e0 e1 e2 f0 f1 f2; obtain ⟨d0, d1, d2⟩ := HC.out _ y0.2.2.2; obtain ⟨p0, p1, p2⟩ := HPm.out _ y0.2.2.2; clear y0; go_simp
          first | done | with_reducible rfl
        refine wpAnyH_takeE (i := 24) (some 73) (v := ?_) rfl rfl (by as_aux_lemma => kernel_rfl) (by as_aux_lemma => kernel_rfl) (by as_aux_lemma => kernel_rfl) (fun _ _ _ h => h) (Or.inl ⟨by kernel_rfl, ?_⟩) hS ?_
        rotate_left
        · intro w hSw; have y0 := HY.out _ hSw; have c0 := y0.1.c0; have c1 := y0.1.c1; have e0 := y0.2.1.c0; have e1 := y0.2.1.c1; have e2 := y0.2.1.c2; have f0 := y0.2.2.1.c0; have f1 := y0.2.2.1.c1; have f2 := y0.2.2.1.c2; dsimp only at e0 e1 e2 f0 f1 f2; obtain ⟨d0, d1, d2⟩ := HC.out _ y0.2.2.2; obtain ⟨p0, p1, p2⟩ := HPm.out _ y0.2.2.2; clear y0; go_simp
          first | done | with_reducible rfl
        refine wpAnyH_takeE (i := 25) (some 74) (v := ?_) rfl rfl (by as_aux_lemma => kernel_rfl) (by as_aux_lemma => kernel_rfl) (by as_aux_lemma => kernel_rfl) (fun _ _ _ h => h) (Or.inl ⟨by kernel_rfl, ?_⟩) hS ?_
        rotate_left
        · intro w hSw; have y0 := HY.out _ hSw; have c0 := y0.1.c0; have c1 := y0.1.c1; have e0 := y0.2.1.c0; have e1 := y0.2.1.c1; have e2 := y0.2.1.c2; have f0 := y0.2.2.1.c0; have f1 := y0.2.2.1.c1; have f2 := y0.2.2.1.c2; dsimp only at e0 e1 e2 f0 f1 f2; obtain ⟨d0, d1, d2⟩ := HC.out _ y0.2.2.2; obtain ⟨p0, p1, p2⟩ := HPm.out _ y0.2.2.2; clear y0; go_simp
          first | done | with_reducible rfl
        refine wpAnyH_takeE (i := 26) (some 75) (v := ?_) rfl rfl (by as_aux_lemma => kernel_rfl) (by as_aux_lemma => kernel_rfl) (by as_aux_lemma => kernel_rfl) (fun _ _ _ h => h) (Or.inl ⟨by kernel_rfl, ?_⟩) hS ?_
        rotate_left
        · intro w hSw; have y0 := HY.out _ hSw; have c0 := y0.1.c0; have c1 := y0.1.c1; have e0 := y0.2.1.c0; have e1 := y0.2.1.c1; have e2 := y0.2.1.c2; have f0 := y0.2.2.1.c0; have f1 := y0.2.2.1.c1; have f2 := y0.2.2.1.c2; dsimp only at e0 e1 e2 f0 f1 f2; obtain ⟨d0, d1, d2⟩ := HC.out _ y0.2.2.2; obtain ⟨p0, p1, p2⟩ := HPm.out _ y0.2.2.2; clear y0; go_simp
          first | done | with_reducible rfl
        refine wpAnyH_takeE (i := 27) (some 76) (v := ?_) rfl rfl (by as_aux_lemma => kernel_rfl) (by as_aux_lemma => kernel_rfl) (by as_aux_lemma => kernel_rfl) (fun _ _ _ h => h) (Or.inl ⟨by kernel_rfl, ?_⟩) hS ?_
        rotate_left
        · intro w hSw; have y0 := HY.out _ hSw; have c0 := y0.1.c0; have c1 := y0.1.c1; have e0 := y0.2.1.c0; have e1 := y0.2.1.c1; have e2 := y0.2.1.c2; have f0 := y0.2.2.1.c0; have f1 := y0.2.2.1.c1; have f2 := y0.2.2.1.c2; dsimp only at e0 e1 e2 f0 f1 f2; obtain ⟨d0, d1, d2⟩ := HC.out _ y0.2.2.2; obtain ⟨p0, p1, p2⟩ := HPm.out _ y0.2.2.2; clear y0; go_simp
          first | done | with_reducible rfl
        refine wpAnyH_takeE (i := 29) (some 78) (v := ?_) rfl rfl (by as_aux_lemma => kernel_rfl) (by as_aux_lemma => kernel_rfl) (by as_aux_lemma => kernel_rfl) (fun _ _ _ h => h) (Or.inl ⟨by kernel_rfl, ?_⟩) hS ?_
        rotate_left
        · intro w hSw; have y0 := HY.out _ hSw; have c0 := y0.1.c0; have c1 := y0.1.c1; have e0 := y0.2.1.c0; have e1 := y0.2.1.c1; have e2 := y0.2.1.c2; have f0 := y0.2.2.1.c0; have f1 := y0.2.2.1.c1; have f2 := y0.2.2.1.c2; dsimp only at e0 e1 e2 f0 f1 f2; obtain ⟨d0, d1, d2⟩ := HC.out _ y0.2.2.2; obtain ⟨p0, p1, p2⟩ := HPm.out _ y0.2.2.2; clear y0; go_simp
          first | done | with_reducible rfl
        refine wpAnyH_takeE (i := 30) (some 79) (v := ?_) rfl rfl (by as_aux_lemma => kernel_rfl) (by as_aux_lemma => kernel_rfl) (by as_aux_lemma => kernel_rfl) (fun _ _ _ h => h) (Or.inl ⟨by kernel_rfl, ?_⟩) hS ?_
        rotate_left
        · intro w hSw; have y0 := HY.out _ hSw; have c0 := y0.1.c0; have c1 := y0.1.c1; have e0 := y0.2.1.c0; have e1 := y0.2.1.c1; have e2 := y0.2.1.c2; have f0 := y0.2.2.1.c0; have f1 := y0.2.2.1.c1; have f2 := y0.2.2.1.c2; dsimp only at e0 e1 e2 f0 f1 f2; obtain ⟨d0, d1, d2⟩ := HC.out _ y0.2.2.2; obtain ⟨p0, p1, p2⟩ := HPm.out _ y0.2.2.2; clear y0; go_simp
          first | done | with_reducible rfl
        refine wpAnyH_takeE (i := 31) (some 80) (v := ?_) rfl rfl (by as_aux_lemma => kernel_rfl) (by as_aux_lemma => kernel_rfl) (by as_aux_lemma => kernel_rfl) (fun _ _ _ h => h) (Or.inl ⟨by kernel_rfl, ?_⟩) hS ?_
        rotate_left
        · intro w hSw; have y0 := HY.out _ hSw; have c0 := y0.1.c0; have c1 := y0.1.c1; have e0 := y0.2.1.c0; have e1 := y0.2.1.c1; have e2 := y0.2.1.c2; have f0 := y0.2.2.1.c0; have f1 := y0.2.2.1.c1; have f2 := y0.2.2.1.c2; dsimp only at e0 e1 e2 f0 f1 f2; obtain ⟨d0, d1, d2⟩ := HC.out _ y0.2.2.2; obtain ⟨p0, p1, p2⟩ := HPm.out _ y0.2.2.2; clear y0; go_simp
          first | done | with_reducible rfl
        refine wpAnyH_takeE (i := 32) (some 81) (v := ?_) rfl rfl (by as_aux_lemma => kernel_rfl) (by as_aux_lemma => kernel_rfl) (by as_aux_lemma => kernel_rfl) (fun _ _ _ h => h) (Or.inl ⟨by kernel_rfl, ?_⟩) hS ?_
        rotate_left
        · intro w hSw; have y0 := HY.out _ hSw; have c0 := y0.1.c0; have c1 := y0.1.c1; have e0 := y0.2.1.c0; have e1 := y0.2.1.c1; have e2 := y0.2.1.c2; have f0 := y0.2.2.1.c0; have f1 := y0.2.2.1.c1; have f2 := y0.2.2.1.c2; dsimp only at e0 e1 e2 f0 f1 f2; obtain ⟨d0, d1, d2⟩ := HC.out _ y0.2.2.2; obtain ⟨p0, p1, p2⟩ := HPm.out _ y0.2.2.2; clear y0; go_simp
          first | done | with_reducible rfl
        refine wpAnyH_takeE (i := 33) (some 82) (v := ?_) rfl rfl (by as_aux_lemma => kernel_rfl) (by as_aux_lemma => kernel_rfl) (by as_aux_lemma => kernel_rfl) (fun _ _ _ h => h) (Or.inl ⟨by kernel_rfl, ?_⟩) hS ?_
        rotate_left
        · intro w hSw; have y0 := HY.out _ hSw; have c0 := y0.1.c0; have c1 := y0.1.c1; have e0 := y0.2.1.c0; have e1 := y0.2.1.c1; have e2 := y0.2.1.c2; have f0 := y0.2.2.1.c0; have f1 := y0.2.2.1.c1; have f2 := y0.2.2.1.c2; dsimp only at e0 e1 e2 f0 f1 f2; obtain ⟨d0, d1, d2⟩ := HC.out _ y0.2.2.2; obtain ⟨p0, p1, p2⟩ := HPm.out _ y0.2.2.2; clear y0; go_simp
          first | done | with_reducible rfl
        refine wpAnyH_takeE (i := 34) (some 83) (v := ?_) rfl rfl (by as_aux_lemma => kernel_rfl) (by as_aux_lemma => kernel_rfl) (by as_aux_lemma => kernel_rfl) (fun _ _ _ h => h) (Or.inl ⟨by kernel_rfl, ?_⟩) hS ?_
        rotate_left
        · intro w hSw; have y0 := HY.out _ hSw; have c0 := y0.1.c0; have c1 := y0.1.c1; have e0 := y0.2.1.c0; have e1 := y0.2.1.c1; have e2 := y0.2.1.c2; have f0 := y0.2.2.1.c0; have f1 := y0.2.2.1.c1; have f2 := y0.2.2.1.c2; dsimp only at e0 e1 e2 f0 f1 f2; obtain ⟨d0, d1, d2⟩ := HC.out _ y0.2.2.2; obtain ⟨p0, p1, p2⟩ := HPm.out _ y0.2.2.2; clear y0; go_simp
          first | done | with_reducible rfl
        refine wpAnyH_takeE (i := 35) (some 84) (v := ?_) rfl rfl (by as_aux_lemma => kernel_rfl) (by as_aux_lemma => kernel_rfl) (by as_aux_lemma => kernel_rfl) (fun _ _ _ h => h) (Or.inl ⟨by kernel_rfl, ?_⟩) hS ?_
        rotate_left
        · intro w hSw; have y0 := HY.out _ hSw; have c0 := y0.1.c0; have c1 := y0.1.c1; have e0 := y0.2.1.c0; have e1 := y0.2.1.c1; have e2 := y0.2.1.c2; have f0 := y0.2.2.1.c0; have f1 := y0.2.2.1.c1; have f2 := y0.2.2.1.c2; dsimp only at e0 e1 e2 f0 f1 f2; obtain ⟨d0, d1, d2⟩ := HC.out _ y0.2.2.2; obtain ⟨p0, p1, p2⟩ := HPm.out _ y0.2.2.2; clear y0; go_simp
          first | done | with_reducible rfl
        refine wpAnyH_takeE (i := 36) (some 85) (v := ?_) rfl rfl (by as_aux_lemma => kernel_rfl) (by as_aux_lemma => kernel_rfl) (by as_aux_lemma => kernel_rfl) (fun _ _ _ h => h) (Or.inl ⟨by kernel_rfl, ?_⟩) hS ?_
        rotate_left
        · intro w hSw; have y0 := HY.out _ hSw; have c0 := y0.1.c0; have c1 := y0.1.c1; have e0 := y0.2.1.c0; have e1 := y0.2.1.c1; have e2 := y0.2.1.c2; have f0 := y0.2.2.1.c0; have f1 := y0.2.2.1.c1; have f2 := y0.2.2.1.c2; dsimp only at e0 e1 e2 f0 f1 f2; obtain ⟨d0, d1, d2⟩ := HC.out _ y0.2.2.2; obtain ⟨p0, p1, p2⟩ := HPm.out _ y0.2.2.2; clear y0; go_simp
          first | done | with_reducible rfl
        refine wpAnyH_takeE (i := 37) (some 86) (v := ?_) rfl rfl (by as_aux_lemma => kernel_rfl) (by as_aux_lemma => kernel_rfl) (by as_aux_lemma => kernel_rfl) (fun _ _ _ h => h) (Or.inl ⟨by kernel_rfl, ?_⟩) hS ?_
        rotate_left
        · intro w hSw; have y0 := HY.out _ hSw; have c0 := y0.1.c0; have c1 := y0.1.c1; have e0 := y0.2.1.c0; have e1 := y0.2.1.c1; have e2 := y0.2.1.c2; have f0 := y0.2.2.1.c0; have f1 := y0.2.2.1.c1; have f2 := y0.2.2.1.c2; dsimp only at e0 e1 e2 f0 f1 f2; obtain ⟨d0, d1, d2⟩ := HC.out _ y0.2.2.2; obtain ⟨p0, p1, p2⟩ := HPm.out _ y0.2.2.2; clear y0; go_simp
          first | done | with_reducible rfl
        refine wpAnyH_ready (rs := [28]) (by as_aux_lemma => kernel_rfl) (by simp) ?_
        refine AllReadyH.cons rfl (fun K hK => ?_) AllReadyH.nil
        go_simp
        go_wp2_with (go_at_call 15; refine (HA1.out _).mono ?_; rintro e v2 ⟨rfl, q2⟩)
        refine hK.out _ _ ?_ (fun hS => ?_)
        · exact hS.trans (q2.mono hS.size)
        clear hK K
        refine wpAnyH_ready (rs := [38]) (by as_aux_lemma => kernel_rfl) (by simp) ?_
        refine AllReadyH.cons rfl (fun K hK => ?_) AllReadyH.nil
        go_simp
        go_wp2_with (go_at_call 16; refine (HB1.out _).mono ?_; rintro e v3 ⟨rfl, q3⟩)
        refine hK.out _ _ ?_ (fun hS => ?_)
        · exact hS.trans (q3.mono hS.size)
        clear hK K
        refine wpAnyH_takeE (i := 39) (some 88) (v := ?_) rfl rfl (by as_aux_lemma => kernel_rfl) (by as_aux_lemma => kernel_rfl) (by as_aux_lemma => kernel_rfl) (fun _ _ _ h => h) (Or.inl ⟨by kernel_rfl, ?_⟩) hS ?_
        rotate_left
        · intro w hSw; have y0 := HY.out _ hSw; have c0 := y0.1.c0; have c1 := y0.1.c1; have e0 := y0.2.1.c0; have e1 := y0.2.1.c1; have e2 := y0.2.1.c2; have f0 := y0.2.2.1.c0; have f1 := y0.2.2.1.c1; have f2 := y0.2.2.1.c2; dsimp only at e0 e1 e2 f0 f1 f2; obtain ⟨d0, d1, d2⟩ := HC.out _ y0.2.2.2; obtain ⟨p0, p1, p2⟩ := HPm.out _ y0.2.2.2; clear y0; go_simp
          first | done | with_reducible rfl
        refine wpAnyH_takeE (i := 40) (some 89) (v := ?_) rfl rfl (by as_aux_lemma => kernel_rfl) (by as_aux_lemma => kernel_rfl) (by as_aux_lemma => kernel_rfl) (fun _ _ _ h => h) (Or.inl ⟨by kernel_rfl, ?_⟩) hS ?_
        rotate_left
        · intro w hSw; have y0 := HY.out _ hSw; have c0 := y0.1.c0; have c1 := y0.1.c1; have e0 := y0.2.1.c0; have e1 := y0.2.1.c1; have e2 := y0.2.1.c2; have f0 := y0.2.2.1.c0; have f1 := y0.2.2.1.c1; have f2 := y0.2.2.1.c2; dsimp only at e0 e1 e2 f0 f1 f2; obtain ⟨d0, d1, d2⟩ := HC.out _ y0.2.2.2; obtain ⟨p0, p1, p2⟩ := HPm.out _ y0.2.2.2; clear y0; go_simp
          first | done | with_reducible rfl
        refine wpAnyH_takeE (i := 41) (some 90) (v := ?_) rfl rfl (by as_aux_lemma => kernel_rfl) (by as_aux_lemma => kernel_rfl) (by as_aux_lemma => kernel_rfl) (fun _ _ _ h => h) (Or.inl ⟨by kernel_rfl, ?_⟩) hS ?_
        rotate_left
        · intro w hSw; have y0 := HY.out _ hSw; have c0 := y0.1.c0; have c1 := y0.1.c1; have e0 := y0.2.1.c0; have e1 := y0.2.1.c1; have e2 := y0.2.1.c2; have f0 := y0.2.2.1.c0; have f1 := y0.2.2.1.c1; have f2 := y0.2.2.1.c2; dsimp only at e0 e1 e2 f0 f1 f2; obtain ⟨d0, d1, d2⟩ := HC.out _ y0.2.2.2; obtain ⟨p0, p1, p2⟩ := HPm.out _ y0.2.2.2; clear y0; go_simp
          first | done | with_reducible rfl
        refine wpAnyH_done (by kernel_rfl) ?_ _
        have HE : Hid (∃ T a8 n8 c8, HSt W v3 s B8 T a8 n8 c8) := Lib.hid ⟨_, _, _, _, HST.out.1.on hS⟩
        clear HST hS q1 q2 q3 HXa HY HA1 HB1 HPm HC
        go_simp
        go_wp2
        go_roundw
        case rel => exact ⟨i + 1, by omega, by go_num, HE⟩
        case measure => simp [intOf]; omega

end Go.Proofs.Ytccldbophonloaa
