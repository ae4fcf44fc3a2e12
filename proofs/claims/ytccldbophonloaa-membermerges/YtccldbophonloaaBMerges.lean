/-
  The walk of MemberMerges.
-/
import Derived.Test.YtccldbophonloaaBHears
import Derived.Test.YtccldbophonloaaBRf8
namespace Go.Proofs.Ytccldbophonloaa
open Go Go.RowKit

theorem TabBlk.stR {w : World} {b B : Nat} {T : Tb} (h : TabBlk w b T) (hne : b ≠ B) (s : Int) (a : Option Addr) (n c : Nat) : TabBlk (_root_.Go.Proofs.Ytccldbophonloaa.stR w B s a n c) b T := h.kept (stR_grown w B s a n c) (by simpa using hne)
/-- What every order of a region ends in. -/
def Ends2 (A : Nat → Nat → Act) (F : Nat → Nat → World → Prop) : Exit → Act → World → Prop
  | .normal, a, w => ∃ b b', a = A b b' ∧ F b b' w
  | _, _, _ => False
theorem code_join2 {P : Program} {c : Code} {Q : Exit → Act → World → Prop} {a : Act} {w : World} (F : Nat → Nat → World → Prop) (A : Nat → Nat → Act) (hR : c.wp P (Ends2 A F) a w) (hT : ∀ b b' w, F b b' w → Q .normal (A b b') w) : c.wp P Q a w :=
  Code.wp_mono (fun e a w h => by
    cases e with
    | normal =>
      obtain ⟨b, b', rfl, hF⟩ := h
      exact hT b b' w hF
    | _ => exact h.elim) hR
theorem OwnMx.ge {w : World} {B : Nat} {a : Option Addr} {n c : Nat} {L : List Mem} (h : OwnMx w B (.slice a n c) L) : n = L.length ∧ MemsAt w a L ∧ ∀ q, a = some q → B ≤ q.block := by
  obtain ⟨x, y, e, -, h1, h2⟩ := h.form
  simp only [Value.slice.injEq] at e
  obtain ⟨rfl, rfl, rfl⟩ := e
  exact ⟨rfl, h2, fun q e => (h1 q e).1⟩

set_option maxRecDepth 100000 in
set_option maxHeartbeats 16000000 in
theorem merges_walk (me : Nat) (a : Option Addr) (c n : Nat) (l : List Mem) (b : Option Addr) (d m : Nat) (r : List Mem) (W : World) (hA : MemsAt W a l) (hB : MemsAt W b r) (hFa : FitM l) (hFb : FitM r) (hn : n = l.length) (hm : m = r.length) :
    Calls Try.prog 4 #[.int .u16 (me : Int), .slice a n c, .slice b m d] W fun e w' => e = .returned (.bool true) ∧ Below W.heap.size W w' := by
  have HAw := Lib.hid (fun u => bawake_any u)
  by_cases hna : n ≤ 200
  case neg =>
    have hgt : (200 : Int) < (n : Int) := by omega
    go_enter Try.func4, Try.ntmps4
    go_wp2_with (go_at_call 9; refine (HAw.out _).mono ?_; rintro e w1 ⟨rfl, q1⟩; replace q1 := Lib.hid q1; refine Hid.out ?_)
    refine Lib.hid ?_
    go_wp2
    go_ret
    exact ⟨rfl, q1.out⟩
  have hga : ¬ (200 : Int) < (n : Int) := by omega
  by_cases hnb : m ≤ 200
  case neg =>
    have hgt : (200 : Int) < (m : Int) := by omega
    go_enter Try.func4, Try.ntmps4
    go_wp2_with (go_at_call 9; refine (HAw.out _).mono ?_; rintro e w1 ⟨rfl, q1⟩; replace q1 := Lib.hid q1; refine Hid.out ?_)
    refine Lib.hid ?_
    go_wp2
    go_ret
    exact ⟨rfl, q1.out⟩
  have hgb : ¬ (200 : Int) < (m : Int) := by omega
  have HA := Lib.hid hA
  have HB0 := Lib.hid hB
  have HFa := Lib.hid hFa
  have HFb := Lib.hid hFb
  have HNa := Lib.hid hn
  have HNb := Lib.hid hm
  have HAl : Hid (0 < l.length → ∀ q, a = some q → q.block < W.heap.size) := Lib.hid (fun h => hA.ltB h)
  have HBl : Hid (0 < r.length → ∀ q, b = some q → q.block < W.heap.size) := Lib.hid (fun h => hB.ltB h)
  have HLe : Hid (l.length ≤ 200 ∧ r.length ≤ 200) := Lib.hid ⟨by omega, by omega⟩
  clear hA hB hFa hFb hn hm
  have HNw := Lib.hid (bNew_any me W)
  have HRn := Lib.hid (fun u => brNew_any me u)
  obtain ⟨s, hs⟩ : ∃ s, me % 64 = s := ⟨_, rfl⟩
  rw [hs] at HNw HRn
  have hs64 : s < 64 := by omega
  replace hs := Lib.hid hs
  go_enter Try.func4, Try.ntmps4
  go_wp2_with (go_at_call 10; refine HNw.out.mono ?_; rintro e w1 ⟨rfl, t1, q1⟩; replace t1 := Lib.hid t1; replace q1 := Lib.hid q1; refine Hid.out ?_)
  refine Lib.hid ?_
  go_wp2_with (go_at_call 11; refine (HRn.out _).mono ?_; rintro e w2 ⟨b2, rfl, m2, hb2, q2⟩; replace m2 := Lib.hid m2; replace hb2 := Lib.hid hb2; replace q2 := Lib.hid q2; refine Hid.out ?_)
  refine Lib.hid ?_
  have HS0 : Hid (HSt W (w2.alloc (.cells #[.int .u16 (s : Int), .slice (some ⟨b2, 0, none⟩) 1 1] 28)) s w2.heap.size (newB s) (some ⟨b2, 0, none⟩) 1 1) := Lib.hid (by
    have d3 := (Below.refl w2.heap.size w2).alloc (Nat.le_refl _) (.cells #[.int .u16 (s : Int), .slice (some ⟨b2, 0, none⟩) 1 1] 28)
    have h1 := t1.out.lt
    have h2 := q2.out.size
    have h3 := hb2.out
    have h4 := m2.out.ltB (by simp) _ rfl
    dsimp only at h4
    refine ⟨newB_ok hs64, rfl, (t1.out.on q2.out).on d3, RtB.new w2 (s : Int) _ 1 1, by rw [memsB_new hs64]; rfl, by rw [memsB_new hs64]; exact m2.out.on d3, fun q e => ?_, by omega, q1.out.trans ((q2.out.trans (d3.mono q2.out.size)).mono q1.out.size)⟩
    obtain rfl := Option.some.inj e
    dsimp only
    omega)
  have HX3 : Hid ((w2.alloc (.cells #[.int .u16 (s : Int), .slice (some ⟨b2, 0, none⟩) 1 1] 28)).heap.size = w2.heap.size + 1) := Lib.hid (by simp)
  clear HNw HRn t1 q1 m2 hb2 q2
  obtain ⟨W3, hW3⟩ : ∃ W3, W3 = w2.alloc (.cells #[.int .u16 (s : Int), .slice (some ⟨b2, 0, none⟩) 1 1] 28) := ⟨_, rfl⟩
  rw [← hW3] at HS0 HX3
  obtain ⟨T0, hT0⟩ : ∃ T0, T0 = newB s := ⟨_, rfl⟩
  rw [← hT0] at HS0
  clear hT0
  have HM1 := Lib.hid (bMerge_any W.heap.size T0 a c n l (fun y hy => (HFa.out y hy).1) HNa.out (by have := HLe.out.1; omega) W3 HS0.out.tab (HA.out.below HS0.out.below (Nat.le_refl _)) (fun h q e => Nat.ne_of_lt (HAl.out h q e)))
  have HOk1 : Hid (TbOk (mergeB T0 l) ∧ (mergeB T0 l).s = s) := Lib.hid ⟨mergeB_ok HS0.out.ok HFa.out, (mergeB_s _ _).trans HS0.out.me⟩
  subst hW3
  go_wp2_with (go_at_call 17; refine HM1.out.mono ?_; rintro e w4 ⟨a9, n9, c9, rfl, o9, t4, g4⟩; replace o9 := Lib.hid o9; replace t4 := Lib.hid t4; replace g4 := Lib.hid g4; refine Hid.out ?_)
  refine Lib.hid ?_
  generalize hW3 : w2.alloc (.cells #[.int .u16 (s : Int), .slice (some ⟨b2, 0, none⟩) 1 1] 28) = W3 at *
  clear hW3
  generalize w2.heap.size = B8 at *
  have HR4 : Hid (TabBlk w4 W.heap.size (mergeB T0 l) ∧ RtB w4 B8 (s : Int) (some ⟨b2, 0, none⟩) 1 1 ∧ MemsAt w4 (some ⟨b2, 0, none⟩) (memsB T0) ∧ Below W.heap.size W w4 ∧ W.heap.size < B8 ∧ W3.heap.size ≤ w4.heap.size ∧ (b2 < W3.heap.size ∧ b2 ≠ B8)) := Lib.hid (by
    have h := HS0.out
    have hlt := h.lt
    have hg := g4.out
    exact ⟨t4.out, h.box.kept hg (by simp; omega), h.mems.skip hg (fun q e => by have := (h.sep q e).1; omega), h.below.grown hg h.below.size (fun j e => by cases e; exact Nat.le_refl _), hlt, hg.size, h.mems.ltB (memsB_pos h.ok) _ rfl, (h.sep _ rfl).2⟩)
  have HO9 : Hid (n9 = (mergeM T0 l).length ∧ MemsAt w4 a9 (mergeM T0 l) ∧ ∀ q, a9 = some q → B8 < q.block) := Lib.hid (by
    obtain ⟨h1, h2, h3⟩ := o9.out.ge
    exact ⟨h1, h2, fun q e => by have := h3 q e; have := HX3.out; omega⟩)
  have HM2 := Lib.hid (by
    have := brMerge_any (some ⟨b2, 0, none⟩) 1 1 T0 HS0.out.ok a n c l w4 HR4.out.2.2.1 HS0.out.len (HA.out.below HR4.out.2.2.2.1 (Nat.le_refl _)) HNa.out (by have := HLe.out.1; omega) HFa.out
    unfold MergeRPost at this
    rwa [HS0.out.me] at this)
  have HMe0 := Lib.hid HS0.out.me
  have HOk0 := Lib.hid HS0.out.ok
  clear HM1 o9 t4 g4 HS0
  have c0 := HR4.out.2.1.c0; have c1 := HR4.out.2.1.c1
  go_wp2_with (go_at_call 18; refine HM2.out.mono ?_; rintro e w5 ⟨x8, n8, c8, ao, no, co, rfl, hn8, hm8, hs8, hno, oo, q5⟩; replace hn8 := Lib.hid hn8; replace hm8 := Lib.hid hm8; replace hs8 := Lib.hid hs8; replace hno := Lib.hid hno; replace oo := Lib.hid oo; replace q5 := Lib.hid q5; refine Hid.out ?_)
  refine Lib.hid ?_
  have r5 := HR4.out.2.1.on q5.out
  have z0 := r5.c0; have z1 := r5.c1; have zf := r5.f
  obtain ⟨w6, hw6⟩ : ∃ w6, w6 = stR w5 B8 (s : Int) x8 n8 c8 := ⟨_, rfl⟩
  have HE : Hid (TabBlk w6 W.heap.size (mergeB T0 l) ∧ RtB w6 B8 (s : Int) x8 n8 c8 ∧ MemsAt w6 x8 (memsB (mergeB T0 l)) ∧ MemsAt w6 a9 (mergeM T0 l) ∧ MemsAt w6 ao (mergeM T0 l) ∧ Below W.heap.size W w6) := Lib.hid (by
    have h4 := HR4.out
    have hm0 := HMe0.out
    rw [hw6]
    have hb := h4.2.1.lt
    refine ⟨(h4.1.on q5.out).stR (Nat.ne_of_lt h4.2.2.2.2.1) _ _ _ _, r5.store _ _ _ _, hm8.out.setR (fun q e => ?_) _ _ _ _, (HO9.out.2.1.on q5.out).setR (fun q e => by have := HO9.out.2.2 q e; omega) _ _ _ _, oo.out.ge.2.1.setR (fun q e => by have := oo.out.ge.2.2 q e; omega) _ _ _ _, stR_below (h4.2.2.2.1.trans (q5.out.mono h4.2.2.2.1.size)) (Nat.le_of_lt h4.2.2.2.2.1) _ _ _ _⟩
    rcases hs8.out q e with h | h
    · obtain rfl := Option.some.inj h
      exact h4.2.2.2.2.2.2.2
    · omega)
  have hw6' : w6 = (w5.setCell ⟨B8, 0, none⟩ (.int .u16 (s : Int))).setCell ⟨B8, 1, none⟩ (.slice x8 n8 c8) := hw6
  have hw6'' := Lib.hid hw6'
  have HNo := Lib.hid (hno.out)
  clear hw6 hw6' r5 HM2 hm8 hs8 hno oo q5 HR4
  go_wp2_with fail
  rw [← hw6''.out]
  clear hw6'' c0 c1 z0 z1 zf
  obtain ⟨T1, hT1⟩ : ∃ T1, T1 = mergeB T0 l := ⟨_, rfl⟩
  rw [← hT1] at HE hn8 HOk1
  obtain ⟨L1, hL1⟩ : ∃ L1, L1 = mergeM T0 l := ⟨_, rfl⟩
  rw [← hL1] at HE HO9 HNo
  have HL1n : Hid (L1.length ≤ 200) := Lib.hid (by rw [hL1]; have := mergeM_len T0 l; have := HLe.out.1; omega)
  clear hT1 hL1
  have HN9 : Hid (n9 = L1.length) := Lib.hid HO9.out.1
  clear HO9
  obtain ⟨Nr, hNr⟩ : ∃ Nr, Nr = w6.heap.size := ⟨_, rfl⟩
  have HNe := Lib.hid hNr
  have HX : Hid (∀ u, Below Nr w6 u → TabBlk u W.heap.size T1 ∧ RtB u B8 (s : Int) x8 n8 c8 ∧ MemsAt u x8 (memsB T1) ∧ MemsAt u a9 L1 ∧ MemsAt u ao L1 ∧ Below W.heap.size W u) := Lib.hid (fun u hu => by
    have hu' : Below w6.heap.size w6 u := hNr ▸ hu
    have h := HE.out
    exact ⟨h.1.on hu', h.2.1.on hu', h.2.2.1.on hu', h.2.2.2.1.on hu', h.2.2.2.2.1.on hu', h.2.2.2.2.2.trans (hu'.mono h.2.2.2.2.2.size)⟩)
  have HFk : Hid (∀ u, Below Nr w6 u → Calls Try.prog 19 #[.pointer (some ⟨W.heap.size, 0, none⟩)] u fun e w' => ∃ bf, e = .returned (.pointer (some ⟨bf, 0, none⟩)) ∧ Nr ≤ bf ∧ u.heap.size ≤ bf ∧ TabBlk w' bf T1 ∧ Below u.heap.size u w') := Lib.hid (fun u hu => (bFork_any W.heap.size T1 u (HX.out u hu).1).mono fun e w' ⟨h1, h2, h3⟩ => ⟨_, h1, by rw [hNr]; exact hu.size, Nat.le_refl _, h2, h3⟩)
  have HLx : Hid (∀ q, x8 = some q → q.block < Nr) := Lib.hid (by rw [hNr]; exact HE.out.2.2.1.ltB (memsB_pos HOk1.out.1))
  have HWN : Hid (W.heap.size ≤ Nr) := Lib.hid (by rw [hNr]; exact HE.out.2.2.2.2.2.size)
  clear hNr HE
  apply code_join2 (fun bf b12 w' => TabBlk w' bf T1 ∧ RtB w' b12 (s : Int) x8 n8 c8 ∧ Nr ≤ bf ∧ Nr ≤ b12 ∧ bf ≠ b12 ∧ Below Nr w6 w')
  · skip
    refine wp_region_any (by kernel_rfl) ?_
    change wpAny _ _ _ _ _ _ _ (World.drew _)
    have hS : (fun w' : World => Below Nr w6 w') w6.drew := (Below.refl _ w6).drew
    refine wpAny_of_held (S := fun w' => Below Nr w6 w') _ _ _ _ ?_
    refine wpAnyH_takeE (i := 0) (some 43) (v := ?_) rfl rfl (by as_aux_lemma => kernel_rfl) (by as_aux_lemma => kernel_rfl) (by as_aux_lemma => kernel_rfl) (fun _ _ _ h => h) (Or.inl ⟨by kernel_rfl, ?_⟩) hS ?_
    rotate_left
    · intro w hSw; have y0 := (HX.out _ hSw).2.1; have c0 := y0.c0; have c1 := y0.c1; clear y0; go_simp
      first | done | with_reducible rfl
    refine wpAnyH_takeE (i := 2) (some 45) (v := ?_) rfl rfl (by as_aux_lemma => kernel_rfl) (by as_aux_lemma => kernel_rfl) (by as_aux_lemma => kernel_rfl) (fun _ _ _ h => h) (Or.inl ⟨by kernel_rfl, ?_⟩) hS ?_
    rotate_left
    · intro w hSw; have y0 := (HX.out _ hSw).2.1; have c0 := y0.c0; have c1 := y0.c1; clear y0; go_simp
      first | done | with_reducible rfl
    refine wpAnyH_ready (rs := [1, 3]) (by as_aux_lemma => kernel_rfl) (by simp) ?_
    refine AllReadyH.cons rfl (fun K hK => ?_) (AllReadyH.cons rfl (fun K hK => ?_) AllReadyH.nil)
    · go_simp
      go_wp2_with (go_at_call 19; refine (HFk.out _ hS).mono ?_; rintro e u1 ⟨bf, rfl, hbf, hbu, tf, qf⟩)
      refine hK.out _ _ ?_ (fun hS => ?_)
      · exact hS.trans (qf.mono (Nat.le_trans (Nat.le_of_eq HNe.out) hS.size))
      clear hK K qf hbu
      refine wpAnyH_ready (rs := [3]) (by as_aux_lemma => kernel_rfl) (by simp) ?_
      refine AllReadyH.cons rfl (fun K hK => ?_) AllReadyH.nil
      go_simp
      have dX : Below u1.heap.size u1 (u1.alloc (.cells #[.int .u16 0, .slice none 0 0] 28)) := (Below.refl u1.heap.size u1).alloc (Nat.le_refl _) (.cells #[.int .u16 0, .slice none 0 0] 28)
      have hbb : Nr ≤ u1.heap.size := (Nat.le_trans (Nat.le_of_eq HNe.out) hS.size)
      have hne : bf ≠ u1.heap.size := Nat.ne_of_lt tf.lt
      refine hK.out _ _ (hS.trans (dX.mono (Nat.le_trans (Nat.le_of_eq HNe.out) hS.size))) (fun hS => ?_)
      clear hK K
      have rb : RtB (u1.alloc (.cells #[.int .u16 0, .slice none 0 0] 28)) u1.heap.size 0 none 0 0 := RtB.new u1 0 none 0 0
      replace tf := tf.on dX
      clear dX
      generalize hy : u1.alloc (.cells #[.int .u16 0, .slice none 0 0] 28) = u2 at *
      clear hy
      generalize hyb : u1.heap.size = b12 at *
      clear hyb
      have r5 := rb.store (s : Int) x8 n8 c8
      have z0 := rb.c0; have z1 := rb.c1; have zf := rb.f
      obtain ⟨w8, hw8⟩ : ∃ w8, w8 = stR u2 b12 (s : Int) x8 n8 c8 := ⟨_, rfl⟩
      have HF : Hid (TabBlk w8 bf T1 ∧ RtB w8 b12 (s : Int) x8 n8 c8 ∧ Nr ≤ bf ∧ Nr ≤ b12 ∧ bf ≠ b12 ∧ Below Nr w6 w8) := Lib.hid (by rw [hw8]; exact ⟨tf.stR hne _ _ _ _, r5, hbf, hbb, hne, stR_below hS hbb _ _ _ _⟩)
      have hw8' : w8 = (u2.setCell ⟨b12, 0, none⟩ (.int .u16 (s : Int))).setCell ⟨b12, 1, none⟩ (.slice x8 n8 c8) := hw8
      replace hw8' := Lib.hid hw8'
      clear hw8 r5 rb tf
      refine wpAnyH_takeE (i := 4) (some 11) (v := ?_) rfl rfl (by as_aux_lemma => kernel_rfl) (by as_aux_lemma => kernel_rfl) (by as_aux_lemma => kernel_rfl) (fun _ _ _ h => h) (Or.inl ⟨by kernel_rfl, ?_⟩) hS ?_
      rotate_left
      · intro w hSw; skip; go_simp
        first | done | with_reducible rfl
      refine wpAnyH_ready (rs := [5]) (by as_aux_lemma => kernel_rfl) (by simp) ?_
      refine AllReadyH.cons rfl (fun K hK => ?_) AllReadyH.nil
      go_simp
      rw [← hw8'.out]
      refine hK.out _ _ HF.out.2.2.2.2.2 (fun hS => ?_)
      clear hK K z0 z1 zf
      refine wpAnyH_done (by kernel_rfl) ?_ _
      exact ⟨bf, b12, rfl, HF.out⟩
    · go_simp
      have dX : Below w6.drew.heap.size w6.drew (w6.alloc (.cells #[.int .u16 0, .slice none 0 0] 28)).drew := (Below.refl w6.drew.heap.size w6.drew).alloc (Nat.le_refl _) (.cells #[.int .u16 0, .slice none 0 0] 28)
      refine hK.out _ _ (hS.trans (dX.mono (Nat.le_trans (Nat.le_of_eq HNe.out) hS.size))) (fun hS => ?_)
      clear hK K
      have hbb : Nr ≤ w6.heap.size := Nat.le_of_eq HNe.out
      have rb : RtB (w6.alloc (.cells #[.int .u16 0, .slice none 0 0] 28)).drew w6.heap.size 0 none 0 0 := RtB.new w6 0 none 0 0
      clear dX
      generalize hy : (w6.alloc (.cells #[.int .u16 0, .slice none 0 0] 28)).drew = u1 at *
      clear hy
      generalize hyb : w6.heap.size = b12 at hbb rb ⊢
      clear hyb
      refine wpAnyH_ready (rs := [1]) (by as_aux_lemma => kernel_rfl) (by simp) ?_
      refine AllReadyH.cons rfl (fun K hK => ?_) AllReadyH.nil
      go_simp
      go_wp2_with (go_at_call 19; refine (HFk.out _ hS).mono ?_; rintro e u2 ⟨bf, rfl, hbf, hbu, tf, qf⟩)
      have hne : bf ≠ b12 := by have := rb.lt; omega
      replace rb := rb.on qf
      refine hK.out _ _ ?_ (fun hS => ?_)
      · exact hS.trans (qf.mono (Nat.le_trans (Nat.le_of_eq HNe.out) hS.size))
      clear hK K qf hbu
      have r5 := rb.store (s : Int) x8 n8 c8
      have z0 := rb.c0; have z1 := rb.c1; have zf := rb.f
      obtain ⟨w8, hw8⟩ : ∃ w8, w8 = stR u2 b12 (s : Int) x8 n8 c8 := ⟨_, rfl⟩
      have HF : Hid (TabBlk w8 bf T1 ∧ RtB w8 b12 (s : Int) x8 n8 c8 ∧ Nr ≤ bf ∧ Nr ≤ b12 ∧ bf ≠ b12 ∧ Below Nr w6 w8) := Lib.hid (by rw [hw8]; exact ⟨tf.stR hne _ _ _ _, r5, hbf, hbb, hne, stR_below hS hbb _ _ _ _⟩)
      have hw8' : w8 = (u2.setCell ⟨b12, 0, none⟩ (.int .u16 (s : Int))).setCell ⟨b12, 1, none⟩ (.slice x8 n8 c8) := hw8
      replace hw8' := Lib.hid hw8'
      clear hw8 r5 rb tf
      refine wpAnyH_takeE (i := 4) (some 11) (v := ?_) rfl rfl (by as_aux_lemma => kernel_rfl) (by as_aux_lemma => kernel_rfl) (by as_aux_lemma => kernel_rfl) (fun _ _ _ h => h) (Or.inl ⟨by kernel_rfl, ?_⟩) hS ?_
      rotate_left
      · intro w hSw; skip; go_simp
        first | done | with_reducible rfl
      refine wpAnyH_ready (rs := [5]) (by as_aux_lemma => kernel_rfl) (by simp) ?_
      refine AllReadyH.cons rfl (fun K hK => ?_) AllReadyH.nil
      go_simp
      rw [← hw8'.out]
      refine hK.out _ _ HF.out.2.2.2.2.2 (fun hS => ?_)
      clear hK K z0 z1 zf
      refine wpAnyH_done (by kernel_rfl) ?_ _
      exact ⟨bf, b12, rfl, HF.out⟩
  · rintro bf b12 w8 ⟨tf, rb, hbf, hbb, hne, hB8⟩
    have HY : Hid (TabBlk w8 W.heap.size T1 ∧ RtB w8 B8 (s : Int) x8 n8 c8 ∧ MemsAt w8 x8 (memsB T1) ∧ MemsAt w8 a9 L1 ∧ MemsAt w8 ao L1 ∧ Below W.heap.size W w8) := Lib.hid (HX.out w8 hB8)
    have HXn : Hid (∀ u, Below Nr w8 u → Below Nr w6 u) := Lib.hid (fun u hu => hB8.trans hu)
    have HB := Lib.hid (And.intro hbf (And.intro hbb (And.intro hne hB8)))
    have hl8 : Nr ≤ w8.heap.size := Nat.le_trans (Nat.le_of_eq HNe.out) hB8.size
    have HL8 := Lib.hid hl8
    have HM3 := Lib.hid (bMerge_any bf T1 b d m r (fun y hy => (HFb.out y hy).1) HNb.out (by have := HLe.out.2; omega) w8 tf (HB0.out.below HY.out.2.2.2.2.2 (Nat.le_refl _)) (fun h q e => by have := HBl.out h q e; have := HY.out.1.lt; have h5 := HWN.out; omega))
    have HOk2 : Hid (TbOk (mergeB T1 r) ∧ (mergeB T1 r).s = s) := Lib.hid ⟨mergeB_ok HOk1.out.1 HFb.out, (mergeB_s _ _).trans HOk1.out.2⟩
    have HRb := Lib.hid rb
    clear tf rb hbf hbb hne hB8 hl8
    go_simp
    go_wp2_with (go_at_call 17; refine HM3.out.mono ?_; rintro e w9 ⟨a13, n13, c13, rfl, o13, t13, g13⟩; replace o13 := Lib.hid o13; replace t13 := Lib.hid t13; replace g13 := Lib.hid g13; refine Hid.out ?_)
    refine Lib.hid ?_
    have HN9b : Hid (Below Nr w8 w9) := Lib.hid (below_of_grownBy g13.out HB.out.1 HL8.out)
    have HR9 : Hid (TabBlk w9 bf (mergeB T1 r) ∧ RtB w9 b12 (s : Int) x8 n8 c8 ∧ MemsAt w9 x8 (memsB T1) ∧ Below W.heap.size W w9) := Lib.hid (by
      have hx := HX.out w9 (HXn.out w9 HN9b.out)
      exact ⟨t13.out, HRb.out.kept g13.out (by have := HB.out.2.2.1; simp; omega), hx.2.2.1, hx.2.2.2.2.2⟩)
    have HO13 : Hid (n13 = (mergeM T1 r).length ∧ MemsAt w9 a13 (mergeM T1 r) ∧ ∀ q, a13 = some q → b12 < q.block) := Lib.hid (by
      obtain ⟨h1, h2, h3⟩ := o13.out.ge
      exact ⟨h1, h2, fun q e => by have := h3 q e; have := HRb.out.lt; omega⟩)
    have HM4 := Lib.hid (by
      have := brMerge_any x8 n8 c8 T1 HOk1.out.1 b m d r w9 HR9.out.2.2.1 hn8.out (HB0.out.below HR9.out.2.2.2 (Nat.le_refl _)) HNb.out (by have := HLe.out.2; omega) HFb.out
      unfold MergeRPost at this
      rwa [HOk1.out.2] at this)
    clear HM3 o13 t13 g13 HY
    have c0 := HR9.out.2.1.c0; have c1 := HR9.out.2.1.c1
    go_wp2_with (go_at_call 18; refine HM4.out.mono ?_; rintro e wa ⟨y8, m8, d8, ay, ny, cy, rfl, hn9, hm9, hs9, hny, oy, qa⟩; replace hn9 := Lib.hid hn9; replace hm9 := Lib.hid hm9; replace hs9 := Lib.hid hs9; replace hny := Lib.hid hny; replace oy := Lib.hid oy; replace qa := Lib.hid qa; refine Hid.out ?_)
    refine Lib.hid ?_
    have r5 := HR9.out.2.1.on qa.out
    have z0 := r5.c0; have z1 := r5.c1; have zf := r5.f
    obtain ⟨wb, hwb⟩ : ∃ wb, wb = stR wa b12 (s : Int) y8 m8 d8 := ⟨_, rfl⟩
    have HZ : Hid (TabBlk wb bf (mergeB T1 r) ∧ RtB wb b12 (s : Int) y8 m8 d8 ∧ MemsAt wb y8 (memsB (mergeB T1 r)) ∧ MemsAt wb a13 (mergeM T1 r) ∧ MemsAt wb ay (mergeM T1 r) ∧ Below Nr w8 wb) := Lib.hid (by
      have h9 := HR9.out
      have hb := h9.2.1.lt
      rw [hwb]
      have hnb : Nr ≤ w9.heap.size := Nat.le_trans HL8.out HN9b.out.size
      refine ⟨(h9.1.on qa.out).stR HB.out.2.2.1 _ _ _ _, r5.store _ _ _ _, hm9.out.setR (fun q e => ?_) _ _ _ _, (HO13.out.2.1.on qa.out).setR (fun q e => by have := HO13.out.2.2 q e; omega) _ _ _ _, oy.out.ge.2.1.setR (fun q e => by have := oy.out.ge.2.2 q e; omega) _ _ _ _, stR_below (HN9b.out.trans (qa.out.mono hnb)) HB.out.2.1 _ _ _ _⟩
      rcases hs9.out q e with h | h
      · have := HLx.out q h; have := HB.out.2.1; omega
      · omega)
    have hwb' : wb = (wa.setCell ⟨b12, 0, none⟩ (.int .u16 (s : Int))).setCell ⟨b12, 1, none⟩ (.slice y8 m8 d8) := hwb
    have hwb'' := Lib.hid hwb'
    have HNy := Lib.hid hny.out
    have HN13 : Hid (n13 = (mergeM T1 r).length) := Lib.hid HO13.out.1
    clear hwb hwb' r5 HM4 hm9 hs9 hny oy qa HR9 HO13 HN9b
    have HHn := Lib.hid (fun u => bHear_nil zM u)
    go_wp2_with (go_at_call 12; rw [← hwb''.out]; refine (HHn.out _).mono ?_; rintro e wc ⟨rfl, qc⟩; replace qc := Lib.hid qc; refine Hid.out ?_)
    refine Lib.hid ?_
    clear hwb'' c0 c1 z0 z1 zf
    have HKc : Hid (Below wb.heap.size wb (wc.alloc (.cells #[.int .u16 0, .int .u8 0, .int .i64 0] 32))) := Lib.hid (qc.out.alloc qc.out.size _)
    clear qc
    have HGn := Lib.hid (fun u => bGet_nil 1 u)
    have HMn := Lib.hid (fun u (hu : Below wb.heap.size wb u) => bMerge_nil a c n l HNa.out (by have := HLe.out.1; omega) u (HA.out.below (HX.out u (HXn.out u (HZ.out.2.2.2.2.2.trans (hu.mono (Nat.le_trans HL8.out HZ.out.2.2.2.2.2.size))))).2.2.2.2.2 (Nat.le_refl _)))
    have HEl : Hid (∀ u, Below wb.heap.size wb u → TabBlk u W.heap.size T1 ∧ RtB u B8 (s : Int) x8 n8 c8 ∧ MemsAt u x8 (memsB T1) ∧ MemsAt u a9 L1 ∧ MemsAt u ao L1 ∧ Below W.heap.size W u) := Lib.hid (fun u hu => HX.out u (HXn.out u (HZ.out.2.2.2.2.2.trans (hu.mono (Nat.le_trans HL8.out HZ.out.2.2.2.2.2.size)))))
    have HZl : Hid (∀ u, Below wb.heap.size wb u → TabBlk u bf (mergeB T1 r) ∧ RtB u b12 (s : Int) y8 m8 d8 ∧ MemsAt u y8 (memsB (mergeB T1 r)) ∧ MemsAt u a13 (mergeM T1 r) ∧ MemsAt u ay (mergeM T1 r)) := Lib.hid (fun u hu => ⟨HZ.out.1.on hu, HZ.out.2.1.on hu, HZ.out.2.2.1.on hu, HZ.out.2.2.2.1.on hu, HZ.out.2.2.2.2.1.on hu⟩)
    have HSm1 := Lib.hid (fun u (hu : Below wb.heap.size wb u) => ySameM_any a9 ao c9 co L1 L1 u (HEl.out u hu).2.2.2.1 (HEl.out u hu).2.2.2.2.1 (by have := HL1n.out; omega) n9 no HN9.out HNo.out)
    rw [(sameMs_iff _ _).2 rfl] at HSm1
    have HSm2 := Lib.hid (fun u (hu : Below wb.heap.size wb u) => ySameM_any a13 ay c13 cy (mergeM T1 r) (mergeM T1 r) u (HZl.out u hu).2.2.2.1 (HZl.out u hu).2.2.2.2 (by have := mergeM_len T1 r; have := HLe.out.2; omega) n13 ny HN13.out HNy.out)
    rw [(sameMs_iff _ _).2 rfl] at HSm2
    have HSa := Lib.hid (fun u (hu : Below wb.heap.size wb u) => by have := bsame_any W.heap.size T1 HOk1.out.1 x8 n8 c8 1 u (HEl.out u hu).1 (HEl.out u hu).2.2.1 hn8.out; rwa [HOk1.out.2] at this)
    have HSb := Lib.hid (fun u (hu : Below wb.heap.size wb u) => by have := bsame_any bf (mergeB T1 r) HOk2.out.1 y8 m8 d8 1 u (HZl.out u hu).1 (HZl.out u hu).2.2.1 hn9.out; rwa [HOk2.out.2] at this)
    have HRt := Lib.hid (fun u (hu : Below wb.heap.size wb u) => And.intro (HEl.out u hu).2.1 (HZl.out u hu).2.1)
    have HWW : Hid (∀ u, Below wb.heap.size wb u → Below W.heap.size W u) := Lib.hid (fun u hu => (HEl.out u hu).2.2.2.2.2)
    clear HEl HZl HZ HX HXn HB HN9 HNo HN13 HNy
    go_wp2_with (go_at_call 20; refine (HGn.out _).mono ?_; rintro e wd ⟨rfl, qd⟩; replace qd := Lib.hid qd; refine Hid.out ?_)
    refine Lib.hid ?_
    have HKwd : Hid (Below wb.heap.size wb (wd.alloc (.cells #[.int .u16 0, .int .u8 0, .int .i64 0] 32))) := Lib.hid ((HKc.out.trans (qd.out.mono HKc.out.size)).alloc (Nat.le_trans HKc.out.size qd.out.size) _)
    clear qd HKc
    go_wp2_with (go_at_call 17; refine (HMn.out _ HKwd.out).mono ?_; rintro e we ⟨rfl, qe⟩; replace qe := Lib.hid qe; refine Hid.out ?_)
    refine Lib.hid ?_
    have HKwe : Hid (Below wb.heap.size wb we) := Lib.hid (HKwd.out.trans (qe.out.mono HKwd.out.size))
    clear qe HKwd
    have HSn := Lib.hid (fun u => bSelf_nil u)
    have HLn := Lib.hid (fun u => bList_nil u)
    have HTn := Lib.hid (fun u => bThere_nil u)
    have HPn := Lib.hid (fun u => bPosition_nil u)
    have HFn := Lib.hid (fun u => bFork_nil u)
    go_wp2_with (go_at_call 21; refine (HSn.out _).mono ?_; rintro e wf ⟨rfl, qf⟩; replace qf := Lib.hid qf; refine Hid.out ?_)
    refine Lib.hid ?_
    have HKwf : Hid (Below wb.heap.size wb wf) := Lib.hid (HKwe.out.trans (qf.out.mono HKwe.out.size))
    clear qf HKwe
    go_wp2_with (go_at_call 22; refine (HLn.out _).mono ?_; rintro e wg ⟨ag, ng, kg, rfl, rfl, -, qg⟩; replace qg := Lib.hid qg; refine Hid.out ?_)
    refine Lib.hid ?_
    have HKwg : Hid (Below wb.heap.size wb wg) := Lib.hid (HKwf.out.trans (qg.out.mono HKwf.out.size))
    clear qg HKwf
    go_wp2_with (go_at_call 23; refine (HTn.out _).mono ?_; rintro e wh ⟨ah, nh, kh, rfl, rfl, -, qh⟩; replace qh := Lib.hid qh; refine Hid.out ?_)
    refine Lib.hid ?_
    have HKwh : Hid (Below wb.heap.size wb wh) := Lib.hid (HKwg.out.trans (qh.out.mono HKwg.out.size))
    clear qh HKwg
    go_wp2_with (go_at_call 24; refine (HPn.out _).mono ?_; rintro e wi ⟨rfl, qi⟩; replace qi := Lib.hid qi; refine Hid.out ?_)
    refine Lib.hid ?_
    have HKwi : Hid (Below wb.heap.size wb wi) := Lib.hid (HKwh.out.trans (qi.out.mono HKwh.out.size))
    clear qi HKwh
    go_wp2_with (go_at_call 19; refine (HFn.out _).mono ?_; rintro e wj ⟨rfl, qj⟩; replace qj := Lib.hid qj; refine Hid.out ?_)
    refine Lib.hid ?_
    have HKwj : Hid (Below wb.heap.size wb wj) := Lib.hid (HKwi.out.trans (qj.out.mono HKwi.out.size))
    clear qj HKwi
    go_wp2_with (go_at_call 25; refine (HSm1.out _ HKwj.out).mono ?_; rintro e wk ⟨rfl, qk⟩; replace qk := Lib.hid qk; refine Hid.out ?_)
    refine Lib.hid ?_
    have HKwk : Hid (Below wb.heap.size wb wk) := Lib.hid (HKwj.out.trans (qk.out.mono HKwj.out.size))
    clear qk HKwj
    go_wp2_with (go_at_call 25; refine (HSm2.out _ HKwk.out).mono ?_; rintro e wl ⟨rfl, ql⟩; replace ql := Lib.hid ql; refine Hid.out ?_)
    refine Lib.hid ?_
    have HKwl : Hid (Below wb.heap.size wb wl) := Lib.hid (HKwk.out.trans (ql.out.mono HKwk.out.size))
    clear ql HKwk
    have y1 := (HRt.out _ HKwl.out).1; have c0 := y1.c0; have c1 := y1.c1; clear y1
    go_wp2_with (go_at_call 14; refine (HSa.out _ HKwl.out).mono ?_; rintro e wm ⟨rfl, qm⟩; replace qm := Lib.hid qm; refine Hid.out ?_)
    refine Lib.hid ?_
    have HKwm : Hid (Below wb.heap.size wb wm) := Lib.hid (HKwl.out.trans (qm.out.mono HKwl.out.size))
    clear qm HKwl
    clear c0 c1
    have y1 := (HRt.out _ HKwm.out).2; have c0 := y1.c0; have c1 := y1.c1; clear y1
    go_wp2_with (go_at_call 14; refine (HSb.out _ HKwm.out).mono ?_; rintro e wn ⟨rfl, qn⟩; replace qn := Lib.hid qn; refine Hid.out ?_)
    refine Lib.hid ?_
    have HKwn : Hid (Below wb.heap.size wb wn) := Lib.hid (HKwm.out.trans (qn.out.mono HKwm.out.size))
    clear qn HKwm
    go_wp2_with (go_at_call 9; refine (HAw.out _).mono ?_; rintro e wo ⟨rfl, qo⟩; replace qo := Lib.hid qo; refine Hid.out ?_)
    refine Lib.hid ?_
    have HKwo : Hid (Below wb.heap.size wb wo) := Lib.hid (HKwn.out.trans (qo.out.mono HKwn.out.size))
    clear qo HKwn
    have HEnd := Lib.hid (HWW.out _ HKwo.out)
    go_wp2
    go_ret
    exact ⟨rfl, HEnd.out⟩

end Go.Proofs.Ytccldbophonloaa
