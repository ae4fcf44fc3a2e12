/-
  The walk of CrdtForks.
-/
import Derived.Test.YtkbonifbnbdbkabC20
import Derived.Test.YtkbonifbnbdbkabC10
import Derived.Test.YtkbonifbnbdbkabEJoin
namespace Go.Proofs.Ytkbonifbnbdbkab
open Go.RowKit Go.Maps

theorem rm_cm {w : World} {sb bm X n c : Nat} {a : Option Addr} (h : CmBlk w sb bm) (hX : RmBlk w X a n c) : sb ≠ X := fun e => by
  subst e
  unfold CmBlk at h
  unfold RmBlk at hX
  rw [h] at hX
  simp at hX
theorem map_rm {w : World} {bm X n c : Nat} {S : List Ent} {a : Option Addr} (h : CMap w bm S) (hX : RmBlk w X a n c) : bm ≠ X := fun e => by
  obtain ⟨es, clock, hb, -⟩ := h
  subst e
  unfold RmBlk at hX
  rw [hb] at hX
  cases hX
/-- A map and one of the reference, beside one another: what each has. -/
def QrC (w : World) (sb bm R : Nat) (a : Option Addr) (n c : Nat) (S T : List Ent) : Prop := CAt w sb bm S ∧ RmBlk w R a n c ∧ n = T.length ∧ RefM w a c T
section
variable {w w' : World} {sb bm R : Nat} {a : Option Addr} {n c : Nat} {S T : List Ent}
theorem nilRefM (w : World) : RefM w none 0 [] := ⟨fun h => absurd h (by simp), Nat.zero_le _, fun _ => rfl⟩
theorem QrC.on (h : QrC w sb bm R a n c S T) (q : Below w.heap.size w w') : QrC w' sb bm R a n c S T := ⟨h.1.on q, h.2.1.on q, h.2.2.1, h.2.2.2.on q⟩
theorem QrC.turned (h : QrC w sb bm R a n c S T) {bx : Nat} {U : List Ent} (hx : CMap w bx U) (hg : w.grownBy w' (some bx)) (hne : bm ≠ bx) : QrC w' sb bm R a n c S T :=
  ⟨h.1.apart2 hx hg hne, h.2.1.kept hg (fun e => map_rm hx h.2.1 (Option.some.inj e).symm), h.2.2.1, h.2.2.2.turn hg hx⟩
theorem QrC.own (h : QrC w sb bm R a n c S T) {S' : List Ent} (hm : CAt w' sb bm S') (hg : w.grownBy w' (some bm)) : QrC w' sb bm R a n c S' T :=
  ⟨hm, h.2.1.kept hg (fun e => map_rm h.1.2.1 h.2.1 (Option.some.inj e).symm), h.2.2.1, h.2.2.2.turn hg h.1.2.1⟩
theorem QrC.stored (h : QrC w sb bm R a n c S T) {X n1 c1 : Nat} {a1 : Option Addr} (hX : RmBlk w X a1 n1 c1) (hne : R ≠ X) (v : Value) : QrC (w.setCell ⟨X, 0, none⟩ v) sb bm R a n c S T :=
  ⟨h.1.apart (grown_cell w X v) (rm_cm h.1.1 hX) (map_rm h.1.2.1 hX), h.2.1.kept (grown_cell w X v) (fun e => hne (Option.some.inj e)), h.2.2.1, h.2.2.2.other hX⟩
theorem QrC.put (h : QrC w sb bm R a n c S T) {a' : Option Addr} {n' c' : Nat} {T' : List Ent} (f : RefM w a' c' T') (hn : n' = T'.length) : QrC (w.setCell ⟨R, 0, none⟩ (.slice a' n' c')) sb bm R a' n' c' S T' :=
  ⟨h.1.apart (grown_cell w R _) (rm_cm h.1.1 h.2.1) (map_rm h.1.2.1 h.2.1), h.2.1.set, hn, f.other h.2.1⟩
end

set_option maxRecDepth 100000 in
set_option maxHeartbeats 32000000 in
theorem forks_walk (aA : Option Addr) (cA : Nat) (lA : List Ent) (aB : Option Addr) (cB : Nat) (lB : List Ent) (now : Int) (W : World) (heA : EntsAt W aA lA) (heB : EntsAt W aB lB) (nA nB : Nat) (hA : nA = lA.length) (hB : nB = lB.length) :
    Calls Try.prog 4 #[.slice aA nA cA, .slice aB nB cB, .int .i64 now] W fun e w' => e = .returned (.bool true) ∧ Below W.heap.size W w' := by
  have HL1 : Hid (∀ w, Calls Try.prog 5 #[.slice aA nA cA] w fun e w' => e = .returned (.bool (decide (nA ≤ 300))) ∧ Below w.heap.size w w') := Lib.hid (fun w => crLight_any aA nA cA w)
  have HL2 : Hid (∀ w, Calls Try.prog 5 #[.slice aB nB cB] w fun e w' => e = .returned (.bool (decide (nB ≤ 300))) ∧ Below w.heap.size w w') := Lib.hid (fun w => crLight_any aB nB cB w)
  by_cases h1 : nA ≤ 300
  · rw [decide_eq_true h1] at HL1
    by_cases h2 : nB ≤ 300
    · rw [decide_eq_true h2] at HL2
      have HNA := Lib.hid hA
      have HNB := Lib.hid hB
      have HEA := Lib.hid heA
      have HEB := Lib.hid heB
      have HlA : Hid (lA.length ≤ 9223372036854775807) := Lib.hid (by omega)
      have HlB : Hid (lB.length ≤ 9223372036854775807) := Lib.hid (by omega)
      obtain ⟨S1, eS1⟩ : ∃ S, mergeS [] lA = S := ⟨_, rfl⟩
      have HS1 := Lib.hid eS1
      have HR1 : Hid (RisingC S1 ∧ S1.length ≤ 256) := Lib.hid (eS1 ▸ ⟨mergeS_rising lA List.Pairwise.nil, mergeS_len lA (by simp)⟩)
      obtain ⟨V, eV⟩ : ∃ S, viewC S1 now = S := ⟨_, rfl⟩
      have HV := Lib.hid eV
      have HRV : Hid (RisingC V ∧ V.length ≤ 256) := Lib.hid (eV ▸ ⟨RisingC.filter HR1.out.1 _, Nat.le_trans (viewC_len S1 now) HR1.out.2⟩)
      obtain ⟨S3, eS3⟩ : ∃ S, mergeS V lB = S := ⟨_, rfl⟩
      have HS3 := Lib.hid eS3
      have HNw : Hid (∀ u, Calls Try.prog 7 #[] u fun e w' => ∃ sb bm, e = .returned (.pointer (some ⟨sb, 0, none⟩)) ∧ CAt w' sb bm [] ∧ u.heap.size ≤ bm ∧ Below u.heap.size u w') := Lib.hid (fun u => (cNew_at u).mono fun e w' ⟨e1, e2, e3⟩ => ⟨_, _, e1, e2, Nat.le_refl _, e3⟩)
      clear hA hB heA heB eS1 eV eS3
      go_enter Try.func4, Try.ntmps4
      go_wp2_with (go_at_call 5; refine (HL1.out _).mono ?_; rintro e w1 ⟨rfl, q1⟩; replace q1 := Lib.hid q1; refine Hid.out ?_)
      refine Lib.hid ?_
      go_wp2_with (go_at_call 5; refine (HL2.out _).mono ?_; rintro e w2 ⟨rfl, q2⟩; replace q2 := Lib.hid q2; refine Hid.out ?_)
      refine Lib.hid ?_
      go_wp2_with (go_at_call 7; refine (HNw.out w2).mono ?_; rintro e w3 ⟨sb, bm, rfl, m3, hbm, q3⟩; replace m3 := Lib.hid m3; replace hbm := Lib.hid hbm; replace q3 := Lib.hid q3; refine Hid.out ?_)
      refine Lib.hid ?_
      have Q2 := q1.out.trans (q2.out.mono q1.out.size)
      have Q3 := Q2.trans (q3.out.mono Q2.size)
      have d4 := (Below.refl w3.heap.size w3).alloc (Nat.le_refl _) (.cells #[.slice none 0 0] 30)
      have Q4 := Q3.trans (d4.mono Q3.size)
      have HB : Hid (W.heap.size ≤ bm ∧ W.heap.size ≤ w3.heap.size) := Lib.hid ⟨Nat.le_trans Q2.size hbm.out, Q3.size⟩
      have HS : Hid (QrC (w3.alloc (.cells #[.slice none 0 0] 30)) sb bm w3.heap.size none 0 0 [] [] ∧ EntsAt (w3.alloc (.cells #[.slice none 0 0] 30)) aA lA ∧ EntsAt (w3.alloc (.cells #[.slice none 0 0] 30)) aB lB ∧ Below W.heap.size W (w3.alloc (.cells #[.slice none 0 0] 30))) := Lib.hid ⟨⟨m3.out.on d4, RmBlk.new w3 none 0 0, rfl, nilRefM _⟩, HEA.out.on Q4, HEB.out.on Q4, Q4⟩
      have HM := Lib.hid (cMerge_any sb bm [] aA cA lA _ HS.out.1.1 HS.out.2.1 HlA.out nA HNA.out)
      rw [HS1.out] at HM
      generalize mergeN [] lA = cn1 at HM
      clear Q2 Q3 Q4 d4 q1 q2 q3 m3 hbm HL1 HL2 HNw HEA HEB
      go_wp2_with (go_at_call 8; refine HM.out.mono ?_; rintro e w5 ⟨rfl, m5, g5⟩; replace m5 := Lib.hid m5; replace g5 := Lib.hid g5; refine Hid.out ?_)
      refine Lib.hid ?_
      obtain ⟨p, xA, xB, q⟩ := HS.out
      have HS5 : Hid (QrC w5 sb bm w3.heap.size none 0 0 S1 [] ∧ EntsAt w5 aA lA ∧ EntsAt w5 aB lB ∧ Below W.heap.size W w5) := Lib.hid ⟨p.own m5.out g5.out, xA.turn g5.out p.1.2.1, xB.turn g5.out p.1.2.1, q.grown g5.out q.size (fun j hj => by cases hj; exact HB.out.1)⟩
      clear p xA xB q HS HM m5 g5
      generalize w3.heap.size = R at *
      have HC6 := Lib.hid (crMerge_any none 0 0 [] aA nA cA lA w5 (nilRefM _) rfl List.Pairwise.nil (by simp) HS5.out.2.1 HNA.out (by omega))
      rw [HS1.out] at HC6
      generalize mergeN [] lA = cn2 at HC6
      obtain ⟨n1, hn1⟩ : ∃ n, S1.length = n := ⟨_, rfl⟩
      rw [hn1] at HC6
      have HN1 := Lib.hid hn1.symm
      clear hn1
      have r0 := HS5.out.1.2.1.c0
      go_wp2_with (go_at_call 9; refine HC6.out.mono ?_; rintro e w6 ⟨a1, c1, rfl, f6, q6⟩; replace f6 := Lib.hid f6; replace q6 := Lib.hid q6; refine Hid.out ?_)
      refine Lib.hid ?_
      clear r0
      obtain ⟨p, xA, xB, q⟩ := HS5.out
      have p6 := p.on q6.out
      have r0 := p6.2.1.c0; have r1 := p6.2.1.f 0
      have k6 := q6.out
      have HS6 : Hid (QrC (w6.setCell ⟨R, 0, none⟩ (.slice a1 n1 c1)) sb bm R a1 n1 c1 S1 S1 ∧ EntsAt (w6.setCell ⟨R, 0, none⟩ (.slice a1 n1 c1)) aA lA ∧ EntsAt (w6.setCell ⟨R, 0, none⟩ (.slice a1 n1 c1)) aB lB ∧ Below W.heap.size W (w6.setCell ⟨R, 0, none⟩ (.slice a1 n1 c1))) := Lib.hid ⟨p6.put f6.out HN1.out, (xA.on k6).otherR p6.2.1, (xB.on k6).otherR p6.2.1, (q.trans (k6.mono q.size)).setCell (p := ⟨R, 0, none⟩) (by exact HB.out.2) _⟩
      clear p xA xB q p6 k6 HS5 HC6 f6 q6
      go_wp2_with fail
      clear r0 r1
      generalize (w6.setCell ⟨R, 0, none⟩ (.slice a1 n1 c1)) = w7 at *
      obtain ⟨p, xA, xB, q⟩ := HS6.out
      have dd : Below w7.heap.size w7 w7.drew := (Below.refl _ _).drew
      refine wp_region_any (by kernel_rfl) ?_
      change wpAny _ _ _ _ _ _ _ (World.drew _)
      have hS : (fun w' : World => QrC w' sb bm R a1 n1 c1 S1 S1 ∧ EntsAt w' aA lA ∧ EntsAt w' aB lB ∧ Below W.heap.size W w') w7.drew := ⟨p.on dd, xA.on dd, xB.on dd, q.trans (dd.mono q.size)⟩
      refine wpAny_of_held (S := fun w' => QrC w' sb bm R a1 n1 c1 S1 S1 ∧ EntsAt w' aA lA ∧ EntsAt w' aB lB ∧ Below W.heap.size W w') _ _ _ _ ?_
      clear p xA xB q dd HS6
      apply wpAnyH_join (fun b b' w' => ∃ bx, bm ≠ bx ∧ W.heap.size ≤ bx ∧ R ≠ b' ∧ W.heap.size ≤ b' ∧ QrC w' sb bm R a1 n1 c1 S1 S1 ∧ QrC w' b bx b' a1 n1 c1 S1 S1 ∧ EntsAt w' aA lA ∧ EntsAt w' aB lB ∧ Below W.heap.size W w')
      · skip
        refine wpAnyH_takeE (i := 0) (some 39) (v := ?_) rfl rfl (by as_aux_lemma => kernel_rfl) (by as_aux_lemma => kernel_rfl) (by as_aux_lemma => kernel_rfl) (fun _ _ _ h => by cases h.1) (Or.inl ⟨by kernel_rfl, ?_⟩) hS ?_
        rotate_left
        · intro w hSw; skip; go_simp
          first | done | with_reducible rfl
        refine wpAnyH_takeE (i := 2) (some 41) (v := ?_) rfl rfl (by as_aux_lemma => kernel_rfl) (by as_aux_lemma => kernel_rfl) (by as_aux_lemma => kernel_rfl) (fun _ _ _ h => by cases h.1) (Or.inl ⟨by kernel_rfl, ?_⟩) hS ?_
        rotate_left
        · intro w hSw; have r0 := hSw.1.2.1.c0; go_simp
          first | done | with_reducible rfl
        refine wpAnyH_ready (rs := [1, 3]) (by as_aux_lemma => kernel_rfl) (by simp) ?_
        refine AllReadyH.cons rfl (fun K hK => ?_) (AllReadyH.cons rfl (fun K hK => ?_) AllReadyH.nil)
        · go_simp
          go_wp2_with (go_at_call 19; refine (cFork_any sb bm S1 _ hS.1.1).mono ?_; rintro e u ⟨sx, bx, rfl, mx, hge, qx⟩)
          have hbx : bm ≠ bx := by have := hS.1.1.2.1.lt; have := hge.2; omega
          have hWb : W.heap.size ≤ bx := Nat.le_trans hS.2.2.2.size hge.2
          refine hK.out _ _ ?_ (fun hS => ?_)
          · exact ⟨hS.1.on qx, hS.2.1.on qx, hS.2.2.1.on qx, hS.2.2.2.trans (qx.mono hS.2.2.2.size)⟩
          clear hK K hge qx
          have dX := (Below.refl u.heap.size u).alloc (Nat.le_refl _) (.cells #[.slice none 0 0] 30)
          refine wpAnyH_ready (rs := [3]) (by as_aux_lemma => kernel_rfl) (by simp) ?_
          refine AllReadyH.cons rfl (fun K hK => ?_) AllReadyH.nil
          go_simp
          have hRX : R ≠ u.heap.size := Nat.ne_of_lt hS.1.2.1.lt
          have hWX : W.heap.size ≤ u.heap.size := hS.2.2.2.size
          refine hK.out _ _ ⟨hS.1.on dX, hS.2.1.on dX, hS.2.2.1.on dX, hS.2.2.2.trans (dX.mono hS.2.2.2.size)⟩ (fun hS => ?_)
          clear hK K
          have nb : RmBlk (u.alloc (.cells #[.slice none 0 0] 30)) u.heap.size none 0 0 := RmBlk.new u none 0 0
          replace mx := mx.on dX
          clear dX
          generalize hy : u.alloc (.cells #[.slice none 0 0] 30) = u2 at *
          clear hy
          generalize u.heap.size = X at *
          refine wpAnyH_takeE (i := 4) (some 9) (v := ?_) rfl rfl (by as_aux_lemma => kernel_rfl) (by as_aux_lemma => kernel_rfl) (by as_aux_lemma => kernel_rfl) (fun _ _ _ h => by cases h.1) (Or.inl ⟨by kernel_rfl, ?_⟩) hS ?_
          rotate_left
          · intro w hSw; skip; go_simp
            first | done | with_reducible rfl
          have z0 := nb.c0
          have zf := nb.f 0
          refine wpAnyH_ready (rs := [5]) (by as_aux_lemma => kernel_rfl) (by simp) ?_
          refine AllReadyH.cons rfl (fun K hK => ?_) AllReadyH.nil
          go_simp
          have p2 : QrC (u2) sx bx X none 0 0 S1 [] := ⟨mx, nb, rfl, nilRefM _⟩
          have p3 := p2.put hS.1.2.2.2 hS.1.2.2.1
          refine hK.out _ _ ⟨hS.1.stored nb hRX _, hS.2.1.otherR nb, hS.2.2.1.otherR nb, hS.2.2.2.setCell (p := ⟨X, 0, none⟩) (by exact hWX) _⟩ (fun hS => ?_)
          clear hK K z0 zf p2 nb mx
          refine wpAnyH_done (by kernel_rfl) ?_ _
          exact ⟨rfl, sx, X, rfl, bx, hbx, hWb, hRX, hWX, hS.1, p3, hS.2.1, hS.2.2.1, hS.2.2.2⟩
        · go_simp
          have dX : Below w7.drew.heap.size w7.drew (w7.alloc (.cells #[.slice none 0 0] 30)).drew := (Below.refl w7.drew.heap.size w7.drew).alloc (Nat.le_refl _) (.cells #[.slice none 0 0] 30)
          have hRX : R ≠ w7.heap.size := Nat.ne_of_lt hS.1.2.1.lt
          have hWX : W.heap.size ≤ w7.heap.size := hS.2.2.2.size
          have nb0 : RmBlk (w7.alloc (.cells #[.slice none 0 0] 30)).drew w7.heap.size none 0 0 := RmBlk.new w7 none 0 0
          refine hK.out _ _ ⟨hS.1.on dX, hS.2.1.on dX, hS.2.2.1.on dX, hS.2.2.2.trans (dX.mono hS.2.2.2.size)⟩ (fun hS => ?_)
          clear hK K dX
          refine wpAnyH_ready (rs := [1]) (by as_aux_lemma => kernel_rfl) (by simp) ?_
          refine AllReadyH.cons rfl (fun K hK => ?_) AllReadyH.nil
          go_simp
          go_wp2_with (go_at_call 19; refine (cFork_any sb bm S1 _ hS.1.1).mono ?_; rintro e u ⟨sx, bx, rfl, mx, hge, qx⟩)
          have hbx : bm ≠ bx := by have := hS.1.1.2.1.lt; have := hge.2; omega
          have hWb : W.heap.size ≤ bx := Nat.le_trans hS.2.2.2.size hge.2
          have nb := nb0.on qx
          refine hK.out _ _ ?_ (fun hS => ?_)
          · exact ⟨hS.1.on qx, hS.2.1.on qx, hS.2.2.1.on qx, hS.2.2.2.trans (qx.mono hS.2.2.2.size)⟩
          clear hK K hge qx nb0
          generalize w7.heap.size = X at *
          refine wpAnyH_takeE (i := 4) (some 9) (v := ?_) rfl rfl (by as_aux_lemma => kernel_rfl) (by as_aux_lemma => kernel_rfl) (by as_aux_lemma => kernel_rfl) (fun _ _ _ h => by cases h.1) (Or.inl ⟨by kernel_rfl, ?_⟩) hS ?_
          rotate_left
          · intro w hSw; skip; go_simp
            first | done | with_reducible rfl
          have z0 := nb.c0
          have zf := nb.f 0
          refine wpAnyH_ready (rs := [5]) (by as_aux_lemma => kernel_rfl) (by simp) ?_
          refine AllReadyH.cons rfl (fun K hK => ?_) AllReadyH.nil
          go_simp
          have p2 : QrC (u) sx bx X none 0 0 S1 [] := ⟨mx, nb, rfl, nilRefM _⟩
          have p3 := p2.put hS.1.2.2.2 hS.1.2.2.1
          refine hK.out _ _ ⟨hS.1.stored nb hRX _, hS.2.1.otherR nb, hS.2.2.1.otherR nb, hS.2.2.2.setCell (p := ⟨X, 0, none⟩) (by exact hWX) _⟩ (fun hS => ?_)
          clear hK K z0 zf p2 nb mx
          refine wpAnyH_done (by kernel_rfl) ?_ _
          exact ⟨rfl, sx, X, rfl, bx, hbx, hWb, hRX, hWX, hS.1, p3, hS.2.1, hS.2.2.1, hS.2.2.2⟩
      · rintro b X w8 ⟨bx, hbx, hWb, hRX, hWX, p, p2, xA, xB, q⟩
        clear hS
        have HX := Lib.hid (And.intro hbx (And.intro hWb (And.intro hRX hWX)))
        have HS8 : Hid (QrC w8 sb bm R a1 n1 c1 S1 S1 ∧ QrC w8 b bx X a1 n1 c1 S1 S1 ∧ EntsAt w8 aA lA ∧ EntsAt w8 aB lB ∧ Below W.heap.size W w8) := Lib.hid ⟨p, p2, xA, xB, q⟩
        clear hbx hWb hRX hWX p p2 xA xB q
        go_simp
        have HF := Lib.hid (cForget_any b bx S1 now w8 HS8.out.2.1.1)
        rw [HV.out] at HF
        obtain ⟨dn, hdn⟩ : ∃ d : Int, (S1.length : Int) - (V.length : Int) = d := ⟨_, rfl⟩
        rw [hdn] at HF
        have HDn := Lib.hid hdn
        clear hdn
        go_wp2_with (go_at_call 20; refine HF.out.mono ?_; rintro e w9 ⟨rfl, g9, m9⟩; replace m9 := Lib.hid m9; replace g9 := Lib.hid g9; refine Hid.out ?_)
        refine Lib.hid ?_
        obtain ⟨p, p2, xA, xB, q⟩ := HS8.out
        have HS9 : Hid (QrC w9 sb bm R a1 n1 c1 S1 S1 ∧ QrC w9 b bx X a1 n1 c1 V S1 ∧ EntsAt w9 aA lA ∧ EntsAt w9 aB lB ∧ Below W.heap.size W w9) := Lib.hid ⟨p.turned p2.1.2.1 g9.out HX.out.1, p2.own m9.out g9.out, xA.turn g9.out p2.1.2.1, xB.turn g9.out p2.1.2.1, q.grown g9.out q.size (fun j hj => by cases hj; exact HX.out.2.1)⟩
        clear p p2 xA xB q HS8 HF m9 g9
        have HG := Lib.hid (crForget_any a1 c1 S1 now w9 HS9.out.2.1.2.2.2.1 HR1.out.2 n1 HS9.out.2.1.2.2.1)
        rw [HV.out, HDn.out] at HG
        obtain ⟨n2, hn2⟩ : ∃ n, V.length = n := ⟨_, rfl⟩
        rw [hn2] at HG
        have HN2 := Lib.hid hn2.symm
        clear hn2
        have x0 := HS9.out.2.1.2.1.c0
        go_wp2_with (go_at_call 21; refine HG.out.mono ?_; rintro e w10 ⟨a2, c2, rfl, f10, q10⟩; replace f10 := Lib.hid f10; replace q10 := Lib.hid q10; refine Hid.out ?_)
        refine Lib.hid ?_
        clear x0 HG
        obtain ⟨p, p2, xA, xB, q⟩ := HS9.out
        have k6 := q10.out
        have p6 := p2.on k6
        have x0 := p6.2.1.c0; have x1 := p6.2.1.f 0
        have HS11 : Hid (QrC (w10.setCell ⟨X, 0, none⟩ (.slice a2 n2 c2)) sb bm R a1 n1 c1 S1 S1 ∧ QrC (w10.setCell ⟨X, 0, none⟩ (.slice a2 n2 c2)) b bx X a2 n2 c2 V V ∧ EntsAt (w10.setCell ⟨X, 0, none⟩ (.slice a2 n2 c2)) aA lA ∧ EntsAt (w10.setCell ⟨X, 0, none⟩ (.slice a2 n2 c2)) aB lB ∧ Below W.heap.size W (w10.setCell ⟨X, 0, none⟩ (.slice a2 n2 c2))) := Lib.hid ⟨(p.on k6).stored p6.2.1 HX.out.2.2.1 _, p6.put f10.out HN2.out, (xA.on k6).otherR p6.2.1, (xB.on k6).otherR p6.2.1, (q.trans (k6.mono q.size)).setCell (p := ⟨X, 0, none⟩) (by exact HX.out.2.2.2) _⟩
        clear p p2 xA xB q p6 k6 HS9 q10 f10
        have HM := Lib.hid (cMerge_any b bx V aB cB lB _ HS11.out.2.1.1 HS11.out.2.2.2.1 HlB.out nB HNB.out)
        rw [HS3.out] at HM
        generalize mergeN V lB = cn3 at HM
        go_wp2_with (go_at_call 8; refine HM.out.mono ?_; rintro e w12 ⟨rfl, m12, g12⟩; replace m12 := Lib.hid m12; replace g12 := Lib.hid g12; refine Hid.out ?_)
        refine Lib.hid ?_
        clear x0 x1
        obtain ⟨p, p2, xA, xB, q⟩ := HS11.out
        have HS12 : Hid (QrC w12 sb bm R a1 n1 c1 S1 S1 ∧ QrC w12 b bx X a2 n2 c2 S3 V ∧ EntsAt w12 aA lA ∧ EntsAt w12 aB lB ∧ Below W.heap.size W w12) := Lib.hid ⟨p.turned p2.1.2.1 g12.out HX.out.1, p2.own m12.out g12.out, xA.turn g12.out p2.1.2.1, xB.turn g12.out p2.1.2.1, q.grown g12.out q.size (fun j hj => by cases hj; exact HX.out.2.1)⟩
        clear p p2 xA xB q HS11 HM m12 g12
        have HC := Lib.hid (crMerge_any a2 c2 n2 V aB nB cB lB w12 HS12.out.2.1.2.2.2 HS12.out.2.1.2.2.1 HRV.out.1 HRV.out.2 HS12.out.2.2.2.1 HNB.out (by omega))
        rw [HS3.out] at HC
        generalize mergeN V lB = cn4 at HC
        obtain ⟨n3, hn3⟩ : ∃ n, S3.length = n := ⟨_, rfl⟩
        rw [hn3] at HC
        have HN3 := Lib.hid hn3.symm
        clear hn3
        have x0 := HS12.out.2.1.2.1.c0
        go_wp2_with (go_at_call 9; refine HC.out.mono ?_; rintro e w13 ⟨a3, c3, rfl, f13, q13⟩; replace f13 := Lib.hid f13; replace q13 := Lib.hid q13; refine Hid.out ?_)
        refine Lib.hid ?_
        clear x0 HC
        obtain ⟨p, p2, xA, xB, q⟩ := HS12.out
        have k6 := q13.out
        have p6 := p2.on k6
        have x0 := p6.2.1.c0; have x1 := p6.2.1.f 0
        have HS14 : Hid (QrC (w13.setCell ⟨X, 0, none⟩ (.slice a3 n3 c3)) sb bm R a1 n1 c1 S1 S1 ∧ QrC (w13.setCell ⟨X, 0, none⟩ (.slice a3 n3 c3)) b bx X a3 n3 c3 S3 S3 ∧ EntsAt (w13.setCell ⟨X, 0, none⟩ (.slice a3 n3 c3)) aA lA ∧ EntsAt (w13.setCell ⟨X, 0, none⟩ (.slice a3 n3 c3)) aB lB ∧ Below W.heap.size W (w13.setCell ⟨X, 0, none⟩ (.slice a3 n3 c3))) := Lib.hid ⟨(p.on k6).stored p6.2.1 HX.out.2.2.1 _, p6.put f13.out HN3.out, (xA.on k6).otherR p6.2.1, (xB.on k6).otherR p6.2.1, (q.trans (k6.mono q.size)).setCell (p := ⟨X, 0, none⟩) (by exact HX.out.2.2.2) _⟩
        clear p p2 xA xB q p6 k6 HS12 q13 f13
        have HPn : Hid (∀ w, Calls Try.prog 22 #[.pointer none, .agg #[.string ⟨#[107]⟩, .int .i64 0, .int .u16 0, .string ⟨#[]⟩, .int .i64 0]] w fun e w' => e = .returned (.tuple #[.bool false, .int .i64 1]) ∧ Below w.heap.size w w') := Lib.hid (fun w => cPut_nil ⟨⟨#[107]⟩, 0, 0, ⟨#[]⟩, 0⟩ w)
        have HGn : Hid (∀ w, Calls Try.prog 10 #[.pointer none, .string ⟨#[107]⟩] w fun e w' => e = .returned (.tuple #[.agg #[.string ⟨#[]⟩, .int .i64 0, .int .u16 0, .string ⟨#[]⟩, .int .i64 0], .bool false]) ∧ Below w.heap.size w w') := Lib.hid (fun w => cGet_nil ⟨#[107]⟩ w)
        go_wp2_with (go_at_call 22; refine (HPn.out _).mono ?_; rintro e w15 ⟨rfl, q⟩; replace q := Lib.hid q; refine Hid.out ?_)
        refine Lib.hid ?_
        clear x0 x1
        have HS15 : Hid (QrC w15 sb bm R a1 n1 c1 S1 S1 ∧ QrC w15 b bx X a3 n3 c3 S3 S3 ∧ EntsAt w15 aA lA ∧ EntsAt w15 aB lB ∧ Below W.heap.size W w15) := Lib.hid (have h := HS14.out; have q := q.out; ⟨h.1.on q, h.2.1.on q, h.2.2.1.on q, h.2.2.2.1.on q, h.2.2.2.2.trans (q.mono h.2.2.2.2.size)⟩)
        clear q HS14
        go_wp2_with (go_at_call 10; refine (HGn.out _).mono ?_; rintro e w16 ⟨rfl, q⟩; replace q := Lib.hid q; refine Hid.out ?_)
        refine Lib.hid ?_
        have HS16 : Hid (QrC w16 sb bm R a1 n1 c1 S1 S1 ∧ QrC w16 b bx X a3 n3 c3 S3 S3 ∧ EntsAt w16 aA lA ∧ EntsAt w16 aB lB ∧ Below W.heap.size W w16) := Lib.hid (have h := HS15.out; have q := q.out; ⟨h.1.on q, h.2.1.on q, h.2.2.1.on q, h.2.2.2.1.on q, h.2.2.2.2.trans (q.mono h.2.2.2.2.size)⟩)
        clear q HS15
        have dE := (Below.refl w16.heap.size w16).alloc (Nat.le_refl _) (.cells #[.string ⟨#[]⟩, .int .i64 0, .int .u16 0, .string ⟨#[]⟩, .int .i64 0] 36)
        have HS17 : Hid (QrC (w16.alloc (.cells #[.string ⟨#[]⟩, .int .i64 0, .int .u16 0, .string ⟨#[]⟩, .int .i64 0] 36)) sb bm R a1 n1 c1 S1 S1 ∧ QrC (w16.alloc (.cells #[.string ⟨#[]⟩, .int .i64 0, .int .u16 0, .string ⟨#[]⟩, .int .i64 0] 36)) b bx X a3 n3 c3 S3 S3 ∧ EntsAt (w16.alloc (.cells #[.string ⟨#[]⟩, .int .i64 0, .int .u16 0, .string ⟨#[]⟩, .int .i64 0] 36)) aA lA ∧ EntsAt (w16.alloc (.cells #[.string ⟨#[]⟩, .int .i64 0, .int .u16 0, .string ⟨#[]⟩, .int .i64 0] 36)) aB lB ∧ Below W.heap.size W (w16.alloc (.cells #[.string ⟨#[]⟩, .int .i64 0, .int .u16 0, .string ⟨#[]⟩, .int .i64 0] 36))) := Lib.hid (have h := HS16.out; have q := dE; ⟨h.1.on q, h.2.1.on q, h.2.2.1.on q, h.2.2.2.1.on q, h.2.2.2.2.trans (q.mono h.2.2.2.2.size)⟩)
        clear dE HS16 HPn HGn
        have HMn := Lib.hid (cMerge_nil aA nA cA lA _ HS17.out.2.2.1 (by omega) HNA.out)
        go_wp2_with (go_at_call 8; refine (HMn.out).mono ?_; rintro e w18 ⟨rfl, q⟩; replace q := Lib.hid q; refine Hid.out ?_)
        refine Lib.hid ?_
        have HS18 : Hid (QrC w18 sb bm R a1 n1 c1 S1 S1 ∧ QrC w18 b bx X a3 n3 c3 S3 S3 ∧ EntsAt w18 aA lA ∧ EntsAt w18 aB lB ∧ Below W.heap.size W w18) := Lib.hid (have h := HS17.out; have q := q.out; ⟨h.1.on q, h.2.1.on q, h.2.2.1.on q, h.2.2.2.1.on q, h.2.2.2.2.trans (q.mono h.2.2.2.2.size)⟩)
        clear q HS17
        clear HMn
        go_wp2_with (go_at_call 23; refine (cList_nil _).mono ?_; rintro e w19 ⟨rfl, q⟩; replace q := Lib.hid q; refine Hid.out ?_)
        refine Lib.hid ?_
        have HS19 : Hid (QrC w19 sb bm R a1 n1 c1 S1 S1 ∧ QrC w19 b bx X a3 n3 c3 S3 S3 ∧ EntsAt w19 aA lA ∧ EntsAt w19 aB lB ∧ Below W.heap.size W w19) := Lib.hid (have h := HS18.out; have q := q.out; ⟨h.1.on q, h.2.1.on q, h.2.2.1.on q, h.2.2.2.1.on q, h.2.2.2.2.trans (q.mono h.2.2.2.2.size)⟩)
        clear q HS18
        go_wp2_with (go_at_call 13; refine (cView_nil now _).mono ?_; rintro e w20 ⟨rfl, q⟩; replace q := Lib.hid q; refine Hid.out ?_)
        refine Lib.hid ?_
        have HS20 : Hid (QrC w20 sb bm R a1 n1 c1 S1 S1 ∧ QrC w20 b bx X a3 n3 c3 S3 S3 ∧ EntsAt w20 aA lA ∧ EntsAt w20 aB lB ∧ Below W.heap.size W w20) := Lib.hid (have h := HS19.out; have q := q.out; ⟨h.1.on q, h.2.1.on q, h.2.2.1.on q, h.2.2.2.1.on q, h.2.2.2.2.trans (q.mono h.2.2.2.2.size)⟩)
        clear q HS19
        go_wp2_with (go_at_call 15; refine (cDelta_nil aA nA cA _).mono ?_; rintro e w21 ⟨rfl, q⟩; replace q := Lib.hid q; refine Hid.out ?_)
        refine Lib.hid ?_
        have HS21 : Hid (QrC w21 sb bm R a1 n1 c1 S1 S1 ∧ QrC w21 b bx X a3 n3 c3 S3 S3 ∧ EntsAt w21 aA lA ∧ EntsAt w21 aB lB ∧ Below W.heap.size W w21) := Lib.hid (have h := HS20.out; have q := q.out; ⟨h.1.on q, h.2.1.on q, h.2.2.1.on q, h.2.2.2.1.on q, h.2.2.2.2.trans (q.mono h.2.2.2.2.size)⟩)
        clear q HS20
        go_wp2_with (go_at_call 20; refine (cForget_nil now _).mono ?_; rintro e w22 ⟨rfl, q⟩; replace q := Lib.hid q; refine Hid.out ?_)
        refine Lib.hid ?_
        have HS22 : Hid (QrC w22 sb bm R a1 n1 c1 S1 S1 ∧ QrC w22 b bx X a3 n3 c3 S3 S3 ∧ EntsAt w22 aA lA ∧ EntsAt w22 aB lB ∧ Below W.heap.size W w22) := Lib.hid (have h := HS21.out; have q := q.out; ⟨h.1.on q, h.2.1.on q, h.2.2.1.on q, h.2.2.2.1.on q, h.2.2.2.2.trans (q.mono h.2.2.2.2.size)⟩)
        clear q HS21
        go_wp2_with (go_at_call 24; refine (cLen_nil _).mono ?_; rintro e w23 ⟨rfl, q⟩; replace q := Lib.hid q; refine Hid.out ?_)
        refine Lib.hid ?_
        have HS23 : Hid (QrC w23 sb bm R a1 n1 c1 S1 S1 ∧ QrC w23 b bx X a3 n3 c3 S3 S3 ∧ EntsAt w23 aA lA ∧ EntsAt w23 aB lB ∧ Below W.heap.size W w23) := Lib.hid (have h := HS22.out; have q := q.out; ⟨h.1.on q, h.2.1.on q, h.2.2.1.on q, h.2.2.2.1.on q, h.2.2.2.2.trans (q.mono h.2.2.2.2.size)⟩)
        clear q HS22
        go_wp2_with (go_at_call 19; refine (cFork_nil _).mono ?_; rintro e w24 ⟨rfl, q⟩; replace q := Lib.hid q; refine Hid.out ?_)
        refine Lib.hid ?_
        have HS24 : Hid (QrC w24 sb bm R a1 n1 c1 S1 S1 ∧ QrC w24 b bx X a3 n3 c3 S3 S3 ∧ EntsAt w24 aA lA ∧ EntsAt w24 aB lB ∧ Below W.heap.size W w24) := Lib.hid (have h := HS23.out; have q := q.out; ⟨h.1.on q, h.2.1.on q, h.2.2.1.on q, h.2.2.2.1.on q, h.2.2.2.2.trans (q.mono h.2.2.2.2.size)⟩)
        clear q HS23
        have HC1 := Lib.hid (csame_any b bx S3 a3 c3 w24 HS24.out.2.1.1 HS24.out.2.1.2.2.2.1 n3 HS24.out.2.1.2.2.1)
        have x0 := HS24.out.2.1.2.1.c0
        go_wp2_with (go_at_call 18; refine (HC1.out).mono ?_; rintro e w25 ⟨rfl, q⟩; replace q := Lib.hid q; refine Hid.out ?_)
        refine Lib.hid ?_
        have HS25 : Hid (QrC w25 sb bm R a1 n1 c1 S1 S1 ∧ QrC w25 b bx X a3 n3 c3 S3 S3 ∧ EntsAt w25 aA lA ∧ EntsAt w25 aB lB ∧ Below W.heap.size W w25) := Lib.hid (have h := HS24.out; have q := q.out; ⟨h.1.on q, h.2.1.on q, h.2.2.1.on q, h.2.2.2.1.on q, h.2.2.2.2.trans (q.mono h.2.2.2.2.size)⟩)
        clear q HS24
        clear x0 HC1
        have HC2 := Lib.hid (csame_any sb bm S1 a1 c1 w25 HS25.out.1.1 HS25.out.1.2.2.2.1 n1 HS25.out.1.2.2.1)
        have r0 := HS25.out.1.2.1.c0
        go_wp2_with (go_at_call 18; refine (HC2.out).mono ?_; rintro e w26 ⟨rfl, q⟩; replace q := Lib.hid q; refine Hid.out ?_)
        refine Lib.hid ?_
        have HS26 : Hid (QrC w26 sb bm R a1 n1 c1 S1 S1 ∧ QrC w26 b bx X a3 n3 c3 S3 S3 ∧ EntsAt w26 aA lA ∧ EntsAt w26 aB lB ∧ Below W.heap.size W w26) := Lib.hid (have h := HS25.out; have q := q.out; ⟨h.1.on q, h.2.1.on q, h.2.2.1.on q, h.2.2.2.1.on q, h.2.2.2.2.trans (q.mono h.2.2.2.2.size)⟩)
        clear q HS25
        clear r0 HC2
        go_wp2_with (go_at_call 6; refine (cawake_any _).mono ?_; rintro e w27 ⟨rfl, q⟩; replace q := Lib.hid q; refine Hid.out ?_)
        refine Lib.hid ?_
        have HS27 : Hid (QrC w27 sb bm R a1 n1 c1 S1 S1 ∧ QrC w27 b bx X a3 n3 c3 S3 S3 ∧ EntsAt w27 aA lA ∧ EntsAt w27 aB lB ∧ Below W.heap.size W w27) := Lib.hid (have h := HS26.out; have q := q.out; ⟨h.1.on q, h.2.1.on q, h.2.2.1.on q, h.2.2.2.1.on q, h.2.2.2.2.trans (q.mono h.2.2.2.2.size)⟩)
        clear q HS26
        go_wp2
        go_ret
        exact ⟨rfl, HS27.out.2.2.2.2⟩
    · rw [decide_eq_false h2] at HL2
      clear hA hB heA heB h1 h2
      go_enter Try.func4, Try.ntmps4
      go_wp2_with (go_at_call 5; refine (HL1.out _).mono ?_; rintro e w1 ⟨rfl, q1⟩; replace q1 := Lib.hid q1; refine Hid.out ?_)
      refine Lib.hid ?_
      go_wp2_with (go_at_call 5; refine (HL2.out _).mono ?_; rintro e w2 ⟨rfl, q2⟩; replace q2 := Lib.hid q2; refine Hid.out ?_)
      refine Lib.hid ?_
      go_wp2_with (go_at_call 6; refine (cawake_any _).mono ?_; rintro e w10 ⟨rfl, q10⟩)
      go_ret
      have Q := q1.out.trans (q2.out.mono q1.out.size)
      exact ⟨rfl, Q.trans (q10.mono Q.size)⟩
  · rw [decide_eq_false h1] at HL1
    clear hA hB heA heB h1
    go_enter Try.func4, Try.ntmps4
    go_wp2_with (go_at_call 5; refine (HL1.out _).mono ?_; rintro e w1 ⟨rfl, q1⟩; replace q1 := Lib.hid q1; refine Hid.out ?_)
    refine Lib.hid ?_
    go_wp2_with (go_at_call 6; refine (cawake_any _).mono ?_; rintro e w10 ⟨rfl, q10⟩)
    go_ret
    exact ⟨rfl, q1.out.trans (q10.mono q1.out.size)⟩

end Go.Proofs.Ytkbonifbnbdbkab
