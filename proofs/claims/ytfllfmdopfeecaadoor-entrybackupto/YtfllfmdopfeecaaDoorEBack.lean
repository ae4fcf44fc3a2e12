/-
  EntryBack, walked: it answers true at an entry and bytes that are not too great, and turns nothing that was there.
-/
import Derived.Test.YtfllfmdopfeecaaDoorEBack0
import Derived.Test.YtfllfmdopfeecaaDoorSrc
import Derived.Lib.QuoteBits
namespace Go.Proofs.YtfllfmdopfeecaaDoor
open Go.RowKit

theorem wpAnyH_more {P : Program} {md : Region.Mode} {ops : Array Oper} {Q : Exit → Act → World → Prop} {S S' : World → Prop} (hs : ∀ w, S' w → S w) : ∀ (fuel : Nat) (listed : Array Bool) (a : Act) (w : World), wpAnyH P md ops Q S' fuel listed a w → wpAnyH P md ops Q S fuel listed a w
  | 0, _, _, _, h => h
  | fuel + 1, _, _, _, h => ⟨h.1, fun i hi => wpOp_mono (fun a' w' h' => ⟨hs _ h'.1, wpAnyH_more hs fuel _ a' w' h'.2⟩) (h.2 i hi)⟩
theorem vars_tab {B : Nat} {w : World} (h : VarsOk B w) : TabE B w := h.tab
theorem eql_strE (l : List UInt8) (W : World) : (binOp .eql 9 (.string ⟨l.toArray⟩) (.string ⟨l.toArray⟩)).run Tryd.prog W = .ok (.bool true) W := by rw [binOp_string_eql]; simp
theorem keyb {k : ByteArray} (h : 1 ≤ k.size) : (k.toList == []) = false := by
  rw [beq_eq_false_iff_ne]
  exact fun e => by have := (toList_nil _).1 e; omega
theorem wrap_subE (x y : Nat) (h : y ≤ x) (hx : x ≤ 140737488351232) : IntKind.i64.wrap ((x : Int) - (y : Int)) = (x : Int) - (y : Int) := by
  obtain ⟨m, hm⟩ : ∃ m : Nat, (x : Int) - (y : Int) = m := ⟨x - y, by omega⟩
  rw [hm]
  exact Lib.wrap_i64_small m (by omega)
theorem take_put {l m r : List UInt8} (h : l = m ++ r) : l.take (l.length - r.length) = m := by
  subst h
  rw [List.length_append, Nat.add_sub_cancel, List.take_left']
  rfl
theorem putEn_len (x : Ent) (hx : x.Ok) (hk : x.k.size ≤ 1048576) (hv : x.v.size ≤ 1048576) : (partsE9 x).flatten.length ≤ 2097500 ∧ (putEn x).length ≤ 2097502 := by
  have n1 : x.k.data.toList.length = x.k.size := rfl
  have n2 : x.v.data.toList.length = x.v.size := rfl
  have a1 := itoa_len20 x.t hx.1.1 hx.1.2
  have a2 := itoa_len20 x.o (by have := hx.2.1; omega) (by have := hx.2.1; omega)
  have a3 := itoa_len20 x.u hx.2.2.1 hx.2.2.2
  have a4 := itoa_len20 (x.k.data.toList.length : Int) (by omega) (by omega)
  have a5 := itoa_len20 (x.v.data.toList.length : Int) (by omega) (by omega)
  have h1 : (partsE9 x).flatten.length ≤ 2097500 := by
    simp only [partsE9, putText, putInt, List.flatten_cons, List.flatten_nil, List.length_append, List.length_cons, List.length_nil]
    omega
  refine ⟨h1, ?_⟩
  unfold putEn putList
  simp only [List.length_append, List.length_cons, List.length_nil]
  omega

set_option maxRecDepth 100000 in
set_option maxHeartbeats 8000000 in
theorem back_walkE (r : Ent) (hr : r.Ok) (hk : r.k.size ≤ 1048576) (hvs : r.v.size ≤ 1048576) (bv : Value) (l : List UInt8) (hl : l.length ≤ 1048576) (w : World) (hs : SrcAt w bv l) (hcap : ∀ q n c, bv = .slice q n c → n ≤ c) (hv : VarsOk w.heap.size w) :
    Calls Tryd.prog 3 #[.agg #[.string r.k, .int .i64 r.t, .int .u16 r.o, .string r.v, .int .i64 r.u], bv] w fun e w' => e = .returned (.bool true) ∧ Below w.heap.size w w' := by
  obtain ⟨ab, nb, cb, rfl⟩ : ∃ a n c, bv = .slice a n c := by
    rcases hs with ⟨rfl, -⟩ | ⟨q, c, rfl, -⟩ <;> exact ⟨_, _, _, rfl⟩
  have hnb : nb = l.length := by
    rcases hs with ⟨e, rfl⟩ | ⟨q, c, e, -⟩
    · simp only [Value.slice.injEq] at e; exact e.2.1
    · simp only [Value.slice.injEq] at e; exact e.2.1
  have hcb : nb ≤ cb := hcap _ _ _ rfl
  have d1 := (Below.refl w.heap.size w).alloc (Nat.le_refl _) (.cells #[.string r.k, .int .i64 r.t, .int .u16 r.o, .string r.v, .int .i64 r.u] 24)
  have b1 := EBlk.new w r
  have hP := ePut_any r hr (by omega) (by omega) (by have := (putEn_len r hr hk hvs).1; omega) w.heap.size _ d1.size (vars_tab (hv.on d1))
  have HP := Lib.hid hP
  have hrd := read_putEn r hr (by omega) (by omega)
  have HX := Lib.hid (And.intro hs (And.intro hv (And.intro hrd (And.intro (putEn_len r hr hk hvs).2 (And.intro hl (And.intro hnb hcb))))))
  have HA : Hid (∀ W, Below w.heap.size w W → Calls Tryd.prog 10 #[] W fun e w' => e = .returned (.bool true) ∧ Below W.heap.size W w') := Lib.hid (fun W hW => eawake_any w.heap.size W hW.size (vars_tab (hv.on hW)))
  have HB1 := Lib.hid (And.intro b1 d1)
  obtain ⟨Y, hY⟩ : ∃ Y, Y = readEn l := ⟨_, rfl⟩
  have HRl := Lib.hid (readEn_laid (l := l))
  rw [← hY] at HRl
  have HRe := Lib.hid hY.symm
  clear hY
  clear d1 b1 hP hrd hs hv hk hvs hr hl hcap hnb hcb
  obtain ⟨x1, hx1⟩ : ∃ x1, x1 = (if checkEn r ≠ 0 then zeroE else r) := ⟨_, rfl⟩
  have HX1 := Lib.hid hx1
  clear hx1
  obtain ⟨kr, tr, or, vr, ur⟩ := r
  obtain ⟨⟨ky, ty, oy, vy, uy⟩, ly, ey⟩ := Y
  dsimp only at *
  go_enter Tryd.func3, Tryd.ntmps3
  go_wp2_with (go_at_call 5; refine HP.out.mono ?_; rintro e w2 ⟨a2, k2, c2, rfl, ho2, q2⟩; replace ho2 := Lib.hid ho2; replace q2 := Lib.hid q2; refine Hid.out ?_)
  refine Lib.hid ?_
  have HNw := Lib.hid (New_any (.slice a2 k2 c2) (putEn ⟨kr, tr, or, vr, ur⟩) w2 ho2.out.src (by have := HX.out.2.2.2.1; omega))
  obtain ⟨b1, d1⟩ := HB1.out
  have HB2 := Lib.hid (And.intro (b1.on q2.out) (d1.trans (q2.out.mono d1.size)))
  clear b1 d1 q2 ho2 HP HB1
  go_wp2_with (go_at_call 4; refine HNw.out.mono ?_; rintro e w3 ⟨rb, a3, c3, rfl, r3, hrb, -, q3⟩; replace r3 := Lib.hid r3; replace q3 := Lib.hid q3; replace hrb := Lib.hid hrb; refine Hid.out ?_)
  refine Lib.hid ?_
  obtain ⟨b2, D2⟩ := HB2.out
  have b3 := b2.on q3.out
  have D3 := D2.trans (q3.out.mono D2.size)
  have hB3 : w.heap.size < rb := Nat.lt_of_lt_of_le b2.lt hrb.out
  have hRd := eRead_any rb a3 c3 _ w.heap.size w3 r3.out (Nat.le_of_lt hB3) (HX.out.2.1.on D3)
  unfold ReadPost at hRd
  rw [HX.out.2.2.1] at hRd
  dsimp only at hRd
  rw [← HX1.out] at hRd
  have HRd := Lib.hid hRd
  have HB3 := Lib.hid (And.intro b3 (And.intro D3 hB3))
  clear b2 D2 b3 D3 hB3 hRd q3 r3 hrb HNw HB2
  obtain ⟨kx, tx, ox, vx, ux⟩ := x1
  dsimp only at HRd
  go_wp2_with (go_at_call 6; refine HRd.out.mono ?_; rintro e w4 ⟨rfl, ⟨a4, c4, r4⟩, g4⟩; replace r4 := Lib.hid r4; replace g4 := Lib.hid g4; refine Hid.out ?_)
  refine Lib.hid ?_
  obtain ⟨b3, D3, hB3⟩ := HB3.out
  have b4 : EBlk w4 w.heap.size ⟨kr, tr, or, vr, ur⟩ := (g4.out.block w.heap.size b3.lt (by simp; omega)).trans b3
  have D4 : Below w.heap.size w w4 := D3.grown g4.out D3.size (fun k e => by cases e; omega)
  have d5 := (Below.refl w4.heap.size w4).alloc (Nat.le_refl _) (.cells #[.string kx, .int .i64 tx, .int .u16 ox, .string vx, .int .i64 ux] 24)
  have D5 := D4.trans (d5.mono D4.size)
  have x5 := EBlk.new w4 ⟨kx, tx, ox, vx, ux⟩
  have b5 := b4.on d5
  have r5 := r4.out.below d5
  have k0 := b5.c0; have k1 := b5.c1; have k2' := b5.c2; have k3 := b5.c3; have k4 := b5.c4
  dsimp only at k0 k1 k2' k3 k4
  have HCk := Lib.hid (eCheck_any ⟨kr, tr, or, vr, ur⟩ (w4.alloc (.cells #[.string kx, .int .i64 tx, .int .u16 ox, .string vx, .int .i64 ux] 24)))
  have HB5 := Lib.hid (And.intro b5 (And.intro x5 (And.intro r5 D5)))
  clear b3 D3 b4 D4 d5 D5 x5 b5 r5 r4 g4 HRd HB3
  dsimp only at HCk
  by_cases hc : checkEn ⟨kr, tr, or, vr, ur⟩ = 0
  · have hxe : (⟨kx, tx, ox, vx, ux⟩ : Ent) = ⟨kr, tr, or, vr, ur⟩ := by rw [HX1.out, if_neg (by simpa using hc)]
    simp only [Ent.mk.injEq] at hxe
    obtain ⟨rfl, rfl, rfl, rfl, rfl⟩ := hxe
    rw [hc] at HCk
    have HC0 := Lib.hid hc
    clear hc HX1
    go_wp2_with (go_at_call 7; refine HCk.out.mono ?_; rintro e w6 ⟨rfl, q6⟩; replace q6 := Lib.hid q6; refine Hid.out ?_)
    refine Lib.hid ?_
    obtain ⟨b5, x5, r5, D5⟩ := HB5.out
    have b6 := b5.on q6.out
    have x6 := x5.on q6.out
    have r6 := r5.below q6.out
    have D6 := D5.trans (q6.out.mono D5.size)
    clear k0 k1 k2' k3 k4
    have k0 := b6.c0; have k1 := b6.c1; have k2' := b6.c2; have k3 := b6.c3; have k4 := b6.c4
    have j0 := x6.c0; have j1 := x6.c1; have j2 := x6.c2; have j3 := x6.c3; have j4 := x6.c4
    dsimp only at k0 k1 k2' k3 k4 j0 j1 j2 j3 j4
    have hne := fun u => run_neE ⟨kx, tx, ox, vx, ux⟩ ⟨kx, tx, ox, vx, ux⟩ u
    rw [eqEn_refl] at hne
    dsimp only at hne
    have HLe := Lib.hid (Left_any rb a4 c4 [] 0 w6 r6)
    have HEr := Lib.hid (Err_any rb a4 c4 [] 0 w6 r6)
    have HCk2 := Lib.hid (eCheck_any ⟨kx, tx, ox, vx, ux⟩ w6)
    have HD6 := Lib.hid D6
    clear b5 x5 r5 D5 b6 x6 r6 D6 q6 HB5
    go_wp2_with (go_at_call 8; refine HLe.out.mono ?_; rintro e w7 ⟨rfl, hw⟩; have hw' := hw.symm; clear hw; subst hw'; refine Hid.out ?_)
    refine Lib.hid ?_
    go_wp2_with (go_at_call 9; refine HEr.out.mono ?_; rintro e w7 ⟨rfl, hw⟩; have hw' := hw.symm; clear hw; subst hw'; refine Hid.out ?_)
    refine Lib.hid ?_
    rw [HC0.out] at HCk2
    go_wp2_with (go_at_call 7; refine HCk2.out.mono ?_; rintro e w7 ⟨rfl, q7⟩; replace q7 := Lib.hid q7; refine Hid.out ?_)
    refine Lib.hid ?_
    have HD7 := Lib.hid (HD6.out.trans (q7.out.mono HD6.out.size))
    clear k0 k1 k2' k3 k4 j0 j1 j2 j3 j4 hne HLe HEr HCk HCk2 HD6 q7 HC0
    have hD0 := HD7.out
    have HN5 := Lib.hid (New_any (.slice ab nb cb) l w7 (HX.out.1.below hD0 (Nat.le_refl _)) (by have := HX.out.2.2.2.2.1; omega))
    clear hD0
    go_wp2_with (go_at_call 4; refine HN5.out.mono ?_; rintro e v1 ⟨sb, a8, c8, rfl, r1, hsb, -, p1⟩; replace r1 := Lib.hid r1; replace p1 := Lib.hid p1; replace hsb := Lib.hid hsb; refine Hid.out ?_)
    refine Lib.hid ?_
    have E1 := HD7.out.trans (p1.out.mono HD7.out.size)
    have hsb' : w.heap.size ≤ sb := Nat.le_trans HD7.out.size hsb.out
    have hRe := eRead_any sb a8 c8 _ w.heap.size v1 r1.out hsb' (HX.out.2.1.on E1)
    unfold ReadPost at hRe
    rw [HRe.out] at hRe
    dsimp only at hRe
    have HRd2 := Lib.hid hRe
    have HE1 := Lib.hid (And.intro E1 hsb')
    clear hRe E1 hsb' hsb p1 r1 HN5
    go_wp2_with (go_at_call 6; refine HRd2.out.mono ?_; rintro e v2 ⟨rfl, ⟨a5, c5, r2⟩, g2⟩; replace r2 := Lib.hid r2; replace g2 := Lib.hid g2; refine Hid.out ?_)
    refine Lib.hid ?_
    have E2 : Below w.heap.size w v2 := HE1.out.1.grown g2.out HE1.out.1.size (fun k e => by cases e; exact HE1.out.2)
    have m3 := (Below.refl v2.heap.size v2).alloc (Nat.le_refl _) (.cells #[.string ky, .int .i64 ty, .int .u16 oy, .string vy, .int .i64 uy] 24)
    have E3 := E2.trans (m3.mono E2.size)
    have y3 := EBlk.new v2 ⟨ky, ty, oy, vy, uy⟩
    have r3 := r2.out.below m3
    have HV3 := Lib.hid (And.intro y3 (And.intro r3 E3))
    have c0 := y3.c0; have c1 := y3.c1; have c2 := y3.c2; have c3 := y3.c3; have c4 := y3.c4
    dsimp only at c0 c1 c2 c3 c4
    clear E2 m3 E3 y3 r3 r2 g2 HRd2 HE1
    rcases HRl.out with hz | hnz
    · simp only [zeroE, Ent.mk.injEq] at hz
      obtain ⟨rfl, rfl, rfl, rfl, rfl⟩ := hz
      have hq := fun u => run_eqE zeroE zeroE u
      rw [eqEn_refl] at hq
      dsimp only [zeroE] at hq
      have HAw := Lib.hid (HA.out _ HV3.out.2.2)
      go_wp2_with (go_at_call 10; refine HAw.out.mono ?_; rintro e v4 ⟨rfl, p4⟩; replace p4 := Lib.hid p4; refine Hid.out ?_)
      refine Lib.hid ?_
      go_wp2
      go_ret
      exact ⟨rfl, HV3.out.2.2.trans (p4.out.mono HV3.out.2.2.size)⟩
    · obtain ⟨rfl, hck, hok, hlaid⟩ := hnz
      have hcz := checkEn_zero hck
      dsimp only at hcz
      have hP2 := ePut_any ⟨ky, ty, oy, vy, uy⟩ hok (by dsimp only; omega) (by dsimp only; omega) (by have := (putEn_len ⟨ky, ty, oy, vy, uy⟩ hok (by dsimp only; omega) (by dsimp only; omega)).1; omega) w.heap.size
      dsimp only at hP2 hlaid
      generalize putEn ⟨ky, ty, oy, vy, uy⟩ = P at hP2 hlaid
      have HP2 := Lib.hid hP2
      have hCk3 := fun W => eCheck_any ⟨ky, ty, oy, vy, uy⟩ W
      rw [hck] at hCk3
      dsimp only at hCk3
      have HCk3 := Lib.hid hCk3
      have hkb : (ky.toList == []) = false := keyb hcz.1.1
      obtain ⟨-, -, -, -, hlb, hnb, hcb⟩ := HX.out
      have hle : ly.length ≤ l.length := by rw [hlaid, List.length_append]; omega
      obtain ⟨kk, hkk⟩ : ∃ kk, kk = l.length - ly.length := ⟨_, rfl⟩
      have htk : l.take kk = P := by rw [hkk]; exact take_put hlaid
      have hwr := wrap_subE nb ly.length (by omega) (by omega)
      have hsl : ∀ W, (Instr.slice 25 (.slice ab nb cb) none (some (.int .i64 ((nb : Int) - (ly.length : Int)))) none).run Tryd.prog W = .ok (.slice ab kk cb) W := fun W => by
        rw [show ((nb : Int) - (ly.length : Int)) = (kk : Int) by omega]
        exact slice_to ab nb cb kk W (by omega)
      have hl1 : (ly.length : Int) ≤ (nb : Int) := by omega
      have hl2 : (nb : Int) ≤ 140737488351232 := by omega
      have HTk := Lib.hid (And.intro htk (show kk ≤ l.length by omega))
      have hPP := eql_strE P
      clear hP2 hCk3 hok hck hlaid htk hkk hle hlb hnb hcb hcz
      go_wp2_with fail
      obtain ⟨y3, r3, E3⟩ := HV3.out
      have s3 := HX.out.1.below E3 (Nat.le_refl _)
      clear c0 c1 c2 c3 c4
      refine wp_region_any (by kernel_rfl) ?_
      change wpAny _ _ _ _ _ _ _ (World.drew _)
      have hS : (fun w' : World => EBlk w' v2.heap.size ⟨ky, ty, oy, vy, uy⟩ ∧ Rd w' sb a5 c5 ly 0 ∧ SrcAt w' (.slice ab nb cb) l ∧ Below w.heap.size w w') (v2.alloc (.cells #[.string ky, .int .i64 ty, .int .u16 oy, .string vy, .int .i64 uy] 24)).drew := ⟨y3, r3.drewN 1, s3, E3.drew⟩
      refine wpAny_of_held (S := fun w' => EBlk w' v2.heap.size ⟨ky, ty, oy, vy, uy⟩ ∧ Rd w' sb a5 c5 ly 0 ∧ SrcAt w' (.slice ab nb cb) l ∧ Below w.heap.size w w') _ _ _ _ ?_
      clear y3 r3 s3 E3 HV3
      refine wpAnyH_takeE (i := 0) (some 55) (v := ?_) rfl rfl (by as_aux_lemma => kernel_rfl) (by as_aux_lemma => kernel_rfl) (by as_aux_lemma => kernel_rfl) (fun _ _ _ h => h) (Or.inl ⟨by kernel_rfl, ?_⟩) hS ?_
      rotate_left
      · intro w hSw; skip; go_simp
        first | done | with_reducible rfl
      refine wpAnyH_ready (rs := [1]) (by as_aux_lemma => kernel_rfl) (by simp) ?_
      refine AllReadyH.cons rfl (fun K hK => ?_) AllReadyH.nil
      go_simp
      go_wp2_with (go_at_call 9; refine (Err_any sb a5 c5 ly 0 _ hS.2.1).mono ?_; rintro e u1 ⟨rfl, rfl⟩)
      refine hK.out _ _ ?_ (fun hS => ?_)
      · exact hS
      clear hK K
      refine wpAnyH_takeE (i := 2) (some 57) (v := ?_) rfl rfl (by as_aux_lemma => kernel_rfl) (by as_aux_lemma => kernel_rfl) (by as_aux_lemma => kernel_rfl) (fun _ _ _ h => h) (Or.inl ⟨by kernel_rfl, ?_⟩) hS ?_
      rotate_left
      · intro w hSw; skip; go_simp
        first | done | with_reducible rfl
      refine wpAnyH_takeE (i := 3) (some 58) (v := ?_) rfl rfl (by as_aux_lemma => kernel_rfl) (by as_aux_lemma => kernel_rfl) (by as_aux_lemma => kernel_rfl) (fun _ _ _ h => h) (Or.inl ⟨by kernel_rfl, ?_⟩) hS ?_
      rotate_left
      · intro w hSw; skip; go_simp
        first | done | with_reducible rfl
      refine wpAnyH_takeE (i := 4) (some 59) (v := ?_) rfl rfl (by as_aux_lemma => kernel_rfl) (by as_aux_lemma => kernel_rfl) (by as_aux_lemma => kernel_rfl) (fun _ _ _ h => h) (Or.inl ⟨by kernel_rfl, ?_⟩) hS ?_
      rotate_left
      · intro w hSw; have c0 := hSw.1.c0; have c1 := hSw.1.c1; have c2 := hSw.1.c2; have c3 := hSw.1.c3; have c4 := hSw.1.c4; dsimp only at c0 c1 c2 c3 c4; go_simp
        first | done | with_reducible rfl
      refine wpAnyH_ready (rs := [5]) (by as_aux_lemma => kernel_rfl) (by simp) ?_
      refine AllReadyH.cons rfl (fun K hK => ?_) AllReadyH.nil
      go_simp
      go_wp2_with (go_at_call 7; refine (HCk3.out _).mono ?_; rintro e u2 ⟨rfl, q2⟩)
      refine hK.out _ _ ?_ (fun hS => ?_)
      · exact ⟨hS.1.on q2, hS.2.1.below q2, hS.2.2.1.below q2 (Nat.le_refl _), hS.2.2.2.trans (q2.mono hS.2.2.2.size)⟩
      clear hK K
      clear q2
      refine wpAnyH_takeE (i := 6) (some 61) (v := ?_) rfl rfl (by as_aux_lemma => kernel_rfl) (by as_aux_lemma => kernel_rfl) (by as_aux_lemma => kernel_rfl) (fun _ _ _ h => h) (Or.inl ⟨by kernel_rfl, ?_⟩) hS ?_
      rotate_left
      · intro w hSw; skip; go_simp
        first | done | with_reducible rfl
      refine wpAnyH_takeE (i := 7) (some 62) (v := ?_) rfl rfl (by as_aux_lemma => kernel_rfl) (by as_aux_lemma => kernel_rfl) (by as_aux_lemma => kernel_rfl) (fun _ _ _ h => h) (Or.inl ⟨by kernel_rfl, ?_⟩) hS ?_
      rotate_left
      · intro w hSw; skip; go_simp
        first | done | with_reducible rfl
      refine wpAnyH_takeE (i := 8) (some 63) (v := ?_) rfl rfl (by as_aux_lemma => kernel_rfl) (by as_aux_lemma => kernel_rfl) (by as_aux_lemma => kernel_rfl) (fun _ _ _ h => h) (Or.inl ⟨by kernel_rfl, ?_⟩) hS ?_
      rotate_left
      · intro w hSw; skip; go_simp
        first | done | with_reducible rfl
      refine wpAnyH_takeE (i := 9) (some 64) (v := ?_) rfl rfl (by as_aux_lemma => kernel_rfl) (by as_aux_lemma => kernel_rfl) (by as_aux_lemma => kernel_rfl) (fun _ _ _ h => h) (Or.inl ⟨by kernel_rfl, ?_⟩) hS ?_
      rotate_left
      · intro w hSw; have c0 := hSw.1.c0; have c1 := hSw.1.c1; have c2 := hSw.1.c2; have c3 := hSw.1.c3; have c4 := hSw.1.c4; dsimp only at c0 c1 c2 c3 c4; go_simp
        first | done | with_reducible rfl
      refine wpAnyH_takeE (i := 12) (some 67) (v := ?_) rfl rfl (by as_aux_lemma => kernel_rfl) (by as_aux_lemma => kernel_rfl) (by as_aux_lemma => kernel_rfl) (fun _ _ _ h => h) (Or.inl ⟨by kernel_rfl, ?_⟩) hS ?_
      rotate_left
      · intro w hSw; skip; go_simp
        first | done | with_reducible rfl
      refine wpAnyH_takeE (i := 13) (some 68) (v := ?_) rfl rfl (by as_aux_lemma => kernel_rfl) (by as_aux_lemma => kernel_rfl) (by as_aux_lemma => kernel_rfl) (fun _ _ _ h => h) (Or.inl ⟨by kernel_rfl, ?_⟩) hS ?_
      rotate_left
      · intro w hSw; skip; go_simp
        first | done | with_reducible rfl
      refine wpAnyH_takeE (i := 14) (some 69) (v := ?_) rfl rfl (by as_aux_lemma => kernel_rfl) (by as_aux_lemma => kernel_rfl) (by as_aux_lemma => kernel_rfl) (fun _ _ _ h => h) (Or.inl ⟨by kernel_rfl, ?_⟩) hS ?_
      rotate_left
      · intro w hSw; skip; go_simp
        first | done | with_reducible rfl
      refine wpAnyH_takeE (i := 15) (some 70) (v := ?_) rfl rfl (by as_aux_lemma => kernel_rfl) (by as_aux_lemma => kernel_rfl) (by as_aux_lemma => kernel_rfl) (fun _ _ _ h => h) (Or.inl ⟨by kernel_rfl, ?_⟩) hS ?_
      rotate_left
      · intro w hSw; skip; go_simp
        first | done | with_reducible rfl
      refine wpAnyH_ready (rs := [10]) (by as_aux_lemma => kernel_rfl) (by simp) ?_
      refine AllReadyH.cons rfl (fun K hK => ?_) AllReadyH.nil
      go_simp
      go_wp2_with (go_at_call 5; refine (HP2.out _ hS.2.2.2.size (vars_tab (HX.out.2.1.on hS.2.2.2))).mono ?_; rintro e u3 ⟨a9, k9, c9, rfl, o9, q3⟩)
      refine hK.out _ _ ?_ (fun hS => ?_)
      · exact ⟨hS.1.on q3, hS.2.1.below q3, hS.2.2.1.below q3 (Nat.le_refl _), hS.2.2.2.trans (q3.mono hS.2.2.2.size)⟩
      clear hK K
      clear q3
      refine wpAnyH_more (S' := fun w' => (EBlk w' v2.heap.size ⟨ky, ty, oy, vy, uy⟩ ∧ Rd w' sb a5 c5 ly 0 ∧ SrcAt w' (.slice ab nb cb) l ∧ Below w.heap.size w w') ∧ SrcAt w' (.slice a9 k9 c9) P) (fun _ h => h.1) _ _ _ _ ?_
      replace hS : (fun w' : World => (EBlk w' v2.heap.size ⟨ky, ty, oy, vy, uy⟩ ∧ Rd w' sb a5 c5 ly 0 ∧ SrcAt w' (.slice ab nb cb) l ∧ Below w.heap.size w w') ∧ SrcAt w' (.slice a9 k9 c9) P) u3 := ⟨hS, o9.src⟩
      clear o9
      refine wpAnyH_takeE (i := 11) (some 66) (v := ?_) rfl rfl (by as_aux_lemma => kernel_rfl) (by as_aux_lemma => kernel_rfl) (by as_aux_lemma => kernel_rfl) (fun _ _ _ h => h) (Or.inl ⟨by kernel_rfl, ?_⟩) hS ?_
      rotate_left
      · intro w hSw; have hst := src_string hSw.2; go_simp
        first | done | with_reducible rfl
      refine wpAnyH_ready (rs := [16]) (by as_aux_lemma => kernel_rfl) (by simp) ?_
      refine AllReadyH.cons rfl (fun K hK => ?_) AllReadyH.nil
      go_simp
      go_wp2_with (go_at_call 8; refine (Left_any sb a5 c5 ly 0 _ hS.1.2.1).mono ?_; rintro e u4 ⟨rfl, rfl⟩)
      refine hK.out _ _ ?_ (fun hS => ?_)
      · exact hS
      clear hK K
      refine wpAnyH_takeE (i := 17) (some 72) (v := ?_) rfl rfl (by as_aux_lemma => kernel_rfl) (by as_aux_lemma => kernel_rfl) (by as_aux_lemma => kernel_rfl) (fun _ _ _ h => h) (Or.inl ⟨by kernel_rfl, ?_⟩) hS ?_
      rotate_left
      · intro w hSw; skip; go_simp
        first | done | with_reducible rfl
      refine wpAnyH_takeE (i := 18) (some 73) (v := ?_) rfl rfl (by as_aux_lemma => kernel_rfl) (by as_aux_lemma => kernel_rfl) (by as_aux_lemma => kernel_rfl) (fun _ _ _ h => h) (Or.inl ⟨by kernel_rfl, ?_⟩) hS ?_
      rotate_left
      · intro w hSw; skip; go_simp
        first | done | with_reducible rfl
      refine wpAnyH_takeE (i := 19) (some 74) (v := ?_) rfl rfl (by as_aux_lemma => kernel_rfl) (by as_aux_lemma => kernel_rfl) (by as_aux_lemma => kernel_rfl) (fun _ _ _ h => h) (Or.inl ⟨by kernel_rfl, ?_⟩) hS ?_
      rotate_left
      · intro w hSw; have hst := src_take hSw.1.2.2.1 kk HTk.out.2; rw [HTk.out.1] at hst; go_simp
        first | done | with_reducible rfl
      refine wpAnyH_takeE (i := 20) (some 75) (v := ?_) rfl rfl (by as_aux_lemma => kernel_rfl) (by as_aux_lemma => kernel_rfl) (by as_aux_lemma => kernel_rfl) (fun _ _ _ h => h) (Or.inl ⟨by kernel_rfl, ?_⟩) hS ?_
      rotate_left
      · intro w hSw; skip; go_simp
        first | done | with_reducible rfl
      refine wpAnyH_takeE (i := 21) (some 76) (v := ?_) rfl rfl (by as_aux_lemma => kernel_rfl) (by as_aux_lemma => kernel_rfl) (by as_aux_lemma => kernel_rfl) (fun _ _ _ h => h) (Or.inl ⟨by kernel_rfl, ?_⟩) hS ?_
      rotate_left
      · intro w hSw; skip; go_simp
        first | done | with_reducible rfl
      refine wpAnyH_takeE (i := 22) (some 77) (v := ?_) rfl rfl (by as_aux_lemma => kernel_rfl) (by as_aux_lemma => kernel_rfl) (by as_aux_lemma => kernel_rfl) (fun _ _ _ h => h) (Or.inl ⟨by kernel_rfl, ?_⟩) hS ?_
      rotate_left
      · intro w hSw; skip; go_simp
        first | done | with_reducible rfl
      refine wpAnyH_ready (rs := [23]) (by as_aux_lemma => kernel_rfl) (by simp) ?_
      refine AllReadyH.cons rfl (fun K hK => ?_) AllReadyH.nil
      go_simp
      go_wp2_with (go_at_call 10; refine (HA.out _ hS.1.2.2.2).mono ?_; rintro e u5 ⟨rfl, q5⟩)
      refine hK.out _ _ ?_ (fun hS => ?_)
      · exact ⟨⟨hS.1.1.on q5, hS.1.2.1.below q5, hS.1.2.2.1.below q5 (Nat.le_refl _), hS.1.2.2.2.trans (q5.mono hS.1.2.2.2.size)⟩, hS.2.below q5 (Nat.le_refl _)⟩
      clear hK K
      clear q5
      refine wpAnyH_takeE (i := 24) (some 79) (v := ?_) rfl rfl (by as_aux_lemma => kernel_rfl) (by as_aux_lemma => kernel_rfl) (by as_aux_lemma => kernel_rfl) (fun _ _ _ h => h) (Or.inl ⟨by kernel_rfl, ?_⟩) hS ?_
      rotate_left
      · intro w hSw; skip; go_simp
        first | done | with_reducible rfl
      refine wpAnyH_takeE (i := 25) (some 4) (v := ?_) rfl rfl (by as_aux_lemma => kernel_rfl) (by as_aux_lemma => kernel_rfl) (by as_aux_lemma => kernel_rfl) (fun _ _ _ h => h) (Or.inl ⟨by kernel_rfl, ?_⟩) hS ?_
      rotate_left
      · intro w hSw; skip; go_simp
        first | done | with_reducible rfl
      have HF := Lib.hid hS.1.2.2.2
      refine wpAnyH_done (by kernel_rfl) ?_ _
      clear hS
      go_simp
      go_wp2
      go_ret
      exact ⟨rfl, HF.out⟩
  · have hxe : (⟨kx, tx, ox, vx, ux⟩ : Ent) = zeroE := by rw [HX1.out, if_pos hc]
    simp only [zeroE, Ent.mk.injEq] at hxe
    obtain ⟨rfl, rfl, rfl, rfl, rfl⟩ := hxe
    have hCk2 := fun W => eCheck_any ⟨kr, tr, or, vr, ur⟩ W
    have hck1 := HCk.out
    dsimp only at hCk2
    generalize checkEn ⟨kr, tr, or, vr, ur⟩ = C at hc hck1 hCk2
    have hce : (C == 0) = false := by simpa using hc
    have hcn : (C != 0) = true := by simpa using hc
    have HCk1 := Lib.hid hck1
    have HCk2 := Lib.hid hCk2
    clear hc HX1 hck1 hCk2 HCk
    go_wp2_with (go_at_call 7; refine HCk1.out.mono ?_; rintro e w6 ⟨rfl, q6⟩; replace q6 := Lib.hid q6; refine Hid.out ?_)
    refine Lib.hid ?_
    obtain ⟨b5, x5, r5, D5⟩ := HB5.out
    have b6 := b5.on q6.out
    have x6 := x5.on q6.out
    have D6 := D5.trans (q6.out.mono D5.size)
    clear k0 k1 k2' k3 k4
    have k0 := b6.c0; have k1 := b6.c1; have k2' := b6.c2; have k3 := b6.c3; have k4 := b6.c4
    dsimp only at k0 k1 k2' k3 k4
    have HD6 := Lib.hid D6
    have HX6 := Lib.hid x6
    clear b5 x5 r5 D5 b6 x6 D6 q6 HB5
    go_wp2_with (go_at_call 7; refine (HCk2.out _).mono ?_; rintro e w7 ⟨rfl, q7⟩; replace q7 := Lib.hid q7; refine Hid.out ?_)
    refine Lib.hid ?_
    have HD7 := Lib.hid (HD6.out.trans (q7.out.mono HD6.out.size))
    have x7 := HX6.out.on q7.out
    clear k0 k1 k2' k3 k4
    have j0 := x7.c0; have j1 := x7.c1; have j2 := x7.c2; have j3 := x7.c3; have j4 := x7.c4
    dsimp only at j0 j1 j2 j3 j4
    have hne := fun u => run_neE zeroE zeroE u
    rw [eqEn_refl] at hne
    dsimp only [zeroE] at hne
    clear x7 HX6 q7 HD6 HCk1 HCk2
    have hD0 := HD7.out
    have HN5 := Lib.hid (New_any (.slice ab nb cb) l w7 (HX.out.1.below hD0 (Nat.le_refl _)) (by have := HX.out.2.2.2.2.1; omega))
    clear hD0
    go_wp2_with (go_at_call 4; refine HN5.out.mono ?_; rintro e v1 ⟨sb, a8, c8, rfl, r1, hsb, -, p1⟩; replace r1 := Lib.hid r1; replace p1 := Lib.hid p1; replace hsb := Lib.hid hsb; refine Hid.out ?_)
    refine Lib.hid ?_
    have E1 := HD7.out.trans (p1.out.mono HD7.out.size)
    have hsb' : w.heap.size ≤ sb := Nat.le_trans HD7.out.size hsb.out
    have hRe := eRead_any sb a8 c8 _ w.heap.size v1 r1.out hsb' (HX.out.2.1.on E1)
    unfold ReadPost at hRe
    rw [HRe.out] at hRe
    dsimp only at hRe
    have HRd2 := Lib.hid hRe
    have HE1 := Lib.hid (And.intro E1 hsb')
    clear hRe E1 hsb' hsb p1 r1 HN5
    go_wp2_with (go_at_call 6; refine HRd2.out.mono ?_; rintro e v2 ⟨rfl, ⟨a5, c5, r2⟩, g2⟩; replace r2 := Lib.hid r2; replace g2 := Lib.hid g2; refine Hid.out ?_)
    refine Lib.hid ?_
    have E2 : Below w.heap.size w v2 := HE1.out.1.grown g2.out HE1.out.1.size (fun k e => by cases e; exact HE1.out.2)
    have m3 := (Below.refl v2.heap.size v2).alloc (Nat.le_refl _) (.cells #[.string ky, .int .i64 ty, .int .u16 oy, .string vy, .int .i64 uy] 24)
    have E3 := E2.trans (m3.mono E2.size)
    have y3 := EBlk.new v2 ⟨ky, ty, oy, vy, uy⟩
    have r3 := r2.out.below m3
    have HV3 := Lib.hid (And.intro y3 (And.intro r3 E3))
    have c0 := y3.c0; have c1 := y3.c1; have c2 := y3.c2; have c3 := y3.c3; have c4 := y3.c4
    dsimp only at c0 c1 c2 c3 c4
    clear E2 m3 E3 y3 r3 r2 g2 HRd2 HE1
    rcases HRl.out with hz | hnz
    · simp only [zeroE, Ent.mk.injEq] at hz
      obtain ⟨rfl, rfl, rfl, rfl, rfl⟩ := hz
      have hq := fun u => run_eqE zeroE zeroE u
      rw [eqEn_refl] at hq
      dsimp only [zeroE] at hq
      have HAw := Lib.hid (HA.out _ HV3.out.2.2)
      go_wp2_with (go_at_call 10; refine HAw.out.mono ?_; rintro e v4 ⟨rfl, p4⟩; replace p4 := Lib.hid p4; refine Hid.out ?_)
      refine Lib.hid ?_
      go_wp2
      go_ret
      exact ⟨rfl, HV3.out.2.2.trans (p4.out.mono HV3.out.2.2.size)⟩
    · obtain ⟨rfl, hck, hok, hlaid⟩ := hnz
      have hcz := checkEn_zero hck
      dsimp only at hcz
      have hP2 := ePut_any ⟨ky, ty, oy, vy, uy⟩ hok (by dsimp only; omega) (by dsimp only; omega) (by have := (putEn_len ⟨ky, ty, oy, vy, uy⟩ hok (by dsimp only; omega) (by dsimp only; omega)).1; omega) w.heap.size
      dsimp only at hP2 hlaid
      generalize putEn ⟨ky, ty, oy, vy, uy⟩ = P at hP2 hlaid
      have HP2 := Lib.hid hP2
      have hCk3 := fun W => eCheck_any ⟨ky, ty, oy, vy, uy⟩ W
      rw [hck] at hCk3
      dsimp only at hCk3
      have HCk3 := Lib.hid hCk3
      have hkb : (ky.toList == []) = false := keyb hcz.1.1
      obtain ⟨-, -, -, -, hlb, hnb, hcb⟩ := HX.out
      have hle : ly.length ≤ l.length := by rw [hlaid, List.length_append]; omega
      obtain ⟨kk, hkk⟩ : ∃ kk, kk = l.length - ly.length := ⟨_, rfl⟩
      have htk : l.take kk = P := by rw [hkk]; exact take_put hlaid
      have hwr := wrap_subE nb ly.length (by omega) (by omega)
      have hsl : ∀ W, (Instr.slice 25 (.slice ab nb cb) none (some (.int .i64 ((nb : Int) - (ly.length : Int)))) none).run Tryd.prog W = .ok (.slice ab kk cb) W := fun W => by
        rw [show ((nb : Int) - (ly.length : Int)) = (kk : Int) by omega]
        exact slice_to ab nb cb kk W (by omega)
      have hl1 : (ly.length : Int) ≤ (nb : Int) := by omega
      have hl2 : (nb : Int) ≤ 140737488351232 := by omega
      have HTk := Lib.hid (And.intro htk (show kk ≤ l.length by omega))
      have hPP := eql_strE P
      clear hP2 hCk3 hok hck hlaid htk hkk hle hlb hnb hcb hcz
      go_wp2_with fail
      obtain ⟨y3, r3, E3⟩ := HV3.out
      have s3 := HX.out.1.below E3 (Nat.le_refl _)
      clear c0 c1 c2 c3 c4
      refine wp_region_any (by kernel_rfl) ?_
      change wpAny _ _ _ _ _ _ _ (World.drew _)
      have hS : (fun w' : World => EBlk w' v2.heap.size ⟨ky, ty, oy, vy, uy⟩ ∧ Rd w' sb a5 c5 ly 0 ∧ SrcAt w' (.slice ab nb cb) l ∧ Below w.heap.size w w') (v2.alloc (.cells #[.string ky, .int .i64 ty, .int .u16 oy, .string vy, .int .i64 uy] 24)).drew := ⟨y3, r3.drewN 1, s3, E3.drew⟩
      refine wpAny_of_held (S := fun w' => EBlk w' v2.heap.size ⟨ky, ty, oy, vy, uy⟩ ∧ Rd w' sb a5 c5 ly 0 ∧ SrcAt w' (.slice ab nb cb) l ∧ Below w.heap.size w w') _ _ _ _ ?_
      clear y3 r3 s3 E3 HV3
      refine wpAnyH_takeE (i := 0) (some 55) (v := ?_) rfl rfl (by as_aux_lemma => kernel_rfl) (by as_aux_lemma => kernel_rfl) (by as_aux_lemma => kernel_rfl) (fun _ _ _ h => h) (Or.inl ⟨by kernel_rfl, ?_⟩) hS ?_
      rotate_left
      · intro w hSw; skip; go_simp
        first | done | with_reducible rfl
      refine wpAnyH_ready (rs := [1]) (by as_aux_lemma => kernel_rfl) (by simp) ?_
      refine AllReadyH.cons rfl (fun K hK => ?_) AllReadyH.nil
      go_simp
      go_wp2_with (go_at_call 9; refine (Err_any sb a5 c5 ly 0 _ hS.2.1).mono ?_; rintro e u1 ⟨rfl, rfl⟩)
      refine hK.out _ _ ?_ (fun hS => ?_)
      · exact hS
      clear hK K
      refine wpAnyH_takeE (i := 2) (some 57) (v := ?_) rfl rfl (by as_aux_lemma => kernel_rfl) (by as_aux_lemma => kernel_rfl) (by as_aux_lemma => kernel_rfl) (fun _ _ _ h => h) (Or.inl ⟨by kernel_rfl, ?_⟩) hS ?_
      rotate_left
      · intro w hSw; skip; go_simp
        first | done | with_reducible rfl
      refine wpAnyH_takeE (i := 3) (some 58) (v := ?_) rfl rfl (by as_aux_lemma => kernel_rfl) (by as_aux_lemma => kernel_rfl) (by as_aux_lemma => kernel_rfl) (fun _ _ _ h => h) (Or.inl ⟨by kernel_rfl, ?_⟩) hS ?_
      rotate_left
      · intro w hSw; skip; go_simp
        first | done | with_reducible rfl
      refine wpAnyH_takeE (i := 4) (some 59) (v := ?_) rfl rfl (by as_aux_lemma => kernel_rfl) (by as_aux_lemma => kernel_rfl) (by as_aux_lemma => kernel_rfl) (fun _ _ _ h => h) (Or.inl ⟨by kernel_rfl, ?_⟩) hS ?_
      rotate_left
      · intro w hSw; have c0 := hSw.1.c0; have c1 := hSw.1.c1; have c2 := hSw.1.c2; have c3 := hSw.1.c3; have c4 := hSw.1.c4; dsimp only at c0 c1 c2 c3 c4; go_simp
        first | done | with_reducible rfl
      refine wpAnyH_ready (rs := [5]) (by as_aux_lemma => kernel_rfl) (by simp) ?_
      refine AllReadyH.cons rfl (fun K hK => ?_) AllReadyH.nil
      go_simp
      go_wp2_with (go_at_call 7; refine (HCk3.out _).mono ?_; rintro e u2 ⟨rfl, q2⟩)
      refine hK.out _ _ ?_ (fun hS => ?_)
      · exact ⟨hS.1.on q2, hS.2.1.below q2, hS.2.2.1.below q2 (Nat.le_refl _), hS.2.2.2.trans (q2.mono hS.2.2.2.size)⟩
      clear hK K
      clear q2
      refine wpAnyH_takeE (i := 6) (some 61) (v := ?_) rfl rfl (by as_aux_lemma => kernel_rfl) (by as_aux_lemma => kernel_rfl) (by as_aux_lemma => kernel_rfl) (fun _ _ _ h => h) (Or.inl ⟨by kernel_rfl, ?_⟩) hS ?_
      rotate_left
      · intro w hSw; skip; go_simp
        first | done | with_reducible rfl
      refine wpAnyH_takeE (i := 7) (some 62) (v := ?_) rfl rfl (by as_aux_lemma => kernel_rfl) (by as_aux_lemma => kernel_rfl) (by as_aux_lemma => kernel_rfl) (fun _ _ _ h => h) (Or.inl ⟨by kernel_rfl, ?_⟩) hS ?_
      rotate_left
      · intro w hSw; skip; go_simp
        first | done | with_reducible rfl
      refine wpAnyH_takeE (i := 8) (some 63) (v := ?_) rfl rfl (by as_aux_lemma => kernel_rfl) (by as_aux_lemma => kernel_rfl) (by as_aux_lemma => kernel_rfl) (fun _ _ _ h => h) (Or.inl ⟨by kernel_rfl, ?_⟩) hS ?_
      rotate_left
      · intro w hSw; skip; go_simp
        first | done | with_reducible rfl
      refine wpAnyH_takeE (i := 9) (some 64) (v := ?_) rfl rfl (by as_aux_lemma => kernel_rfl) (by as_aux_lemma => kernel_rfl) (by as_aux_lemma => kernel_rfl) (fun _ _ _ h => h) (Or.inl ⟨by kernel_rfl, ?_⟩) hS ?_
      rotate_left
      · intro w hSw; have c0 := hSw.1.c0; have c1 := hSw.1.c1; have c2 := hSw.1.c2; have c3 := hSw.1.c3; have c4 := hSw.1.c4; dsimp only at c0 c1 c2 c3 c4; go_simp
        first | done | with_reducible rfl
      refine wpAnyH_takeE (i := 12) (some 67) (v := ?_) rfl rfl (by as_aux_lemma => kernel_rfl) (by as_aux_lemma => kernel_rfl) (by as_aux_lemma => kernel_rfl) (fun _ _ _ h => h) (Or.inl ⟨by kernel_rfl, ?_⟩) hS ?_
      rotate_left
      · intro w hSw; skip; go_simp
        first | done | with_reducible rfl
      refine wpAnyH_takeE (i := 13) (some 68) (v := ?_) rfl rfl (by as_aux_lemma => kernel_rfl) (by as_aux_lemma => kernel_rfl) (by as_aux_lemma => kernel_rfl) (fun _ _ _ h => h) (Or.inl ⟨by kernel_rfl, ?_⟩) hS ?_
      rotate_left
      · intro w hSw; skip; go_simp
        first | done | with_reducible rfl
      refine wpAnyH_takeE (i := 14) (some 69) (v := ?_) rfl rfl (by as_aux_lemma => kernel_rfl) (by as_aux_lemma => kernel_rfl) (by as_aux_lemma => kernel_rfl) (fun _ _ _ h => h) (Or.inl ⟨by kernel_rfl, ?_⟩) hS ?_
      rotate_left
      · intro w hSw; skip; go_simp
        first | done | with_reducible rfl
      refine wpAnyH_takeE (i := 15) (some 70) (v := ?_) rfl rfl (by as_aux_lemma => kernel_rfl) (by as_aux_lemma => kernel_rfl) (by as_aux_lemma => kernel_rfl) (fun _ _ _ h => h) (Or.inl ⟨by kernel_rfl, ?_⟩) hS ?_
      rotate_left
      · intro w hSw; skip; go_simp
        first | done | with_reducible rfl
      refine wpAnyH_ready (rs := [10]) (by as_aux_lemma => kernel_rfl) (by simp) ?_
      refine AllReadyH.cons rfl (fun K hK => ?_) AllReadyH.nil
      go_simp
      go_wp2_with (go_at_call 5; refine (HP2.out _ hS.2.2.2.size (vars_tab (HX.out.2.1.on hS.2.2.2))).mono ?_; rintro e u3 ⟨a9, k9, c9, rfl, o9, q3⟩)
      refine hK.out _ _ ?_ (fun hS => ?_)
      · exact ⟨hS.1.on q3, hS.2.1.below q3, hS.2.2.1.below q3 (Nat.le_refl _), hS.2.2.2.trans (q3.mono hS.2.2.2.size)⟩
      clear hK K
      clear q3
      refine wpAnyH_more (S' := fun w' => (EBlk w' v2.heap.size ⟨ky, ty, oy, vy, uy⟩ ∧ Rd w' sb a5 c5 ly 0 ∧ SrcAt w' (.slice ab nb cb) l ∧ Below w.heap.size w w') ∧ SrcAt w' (.slice a9 k9 c9) P) (fun _ h => h.1) _ _ _ _ ?_
      replace hS : (fun w' : World => (EBlk w' v2.heap.size ⟨ky, ty, oy, vy, uy⟩ ∧ Rd w' sb a5 c5 ly 0 ∧ SrcAt w' (.slice ab nb cb) l ∧ Below w.heap.size w w') ∧ SrcAt w' (.slice a9 k9 c9) P) u3 := ⟨hS, o9.src⟩
      clear o9
      refine wpAnyH_takeE (i := 11) (some 66) (v := ?_) rfl rfl (by as_aux_lemma => kernel_rfl) (by as_aux_lemma => kernel_rfl) (by as_aux_lemma => kernel_rfl) (fun _ _ _ h => h) (Or.inl ⟨by kernel_rfl, ?_⟩) hS ?_
      rotate_left
      · intro w hSw; have hst := src_string hSw.2; go_simp
        first | done | with_reducible rfl
      refine wpAnyH_ready (rs := [16]) (by as_aux_lemma => kernel_rfl) (by simp) ?_
      refine AllReadyH.cons rfl (fun K hK => ?_) AllReadyH.nil
      go_simp
      go_wp2_with (go_at_call 8; refine (Left_any sb a5 c5 ly 0 _ hS.1.2.1).mono ?_; rintro e u4 ⟨rfl, rfl⟩)
      refine hK.out _ _ ?_ (fun hS => ?_)
      · exact hS
      clear hK K
      refine wpAnyH_takeE (i := 17) (some 72) (v := ?_) rfl rfl (by as_aux_lemma => kernel_rfl) (by as_aux_lemma => kernel_rfl) (by as_aux_lemma => kernel_rfl) (fun _ _ _ h => h) (Or.inl ⟨by kernel_rfl, ?_⟩) hS ?_
      rotate_left
      · intro w hSw; skip; go_simp
        first | done | with_reducible rfl
      refine wpAnyH_takeE (i := 18) (some 73) (v := ?_) rfl rfl (by as_aux_lemma => kernel_rfl) (by as_aux_lemma => kernel_rfl) (by as_aux_lemma => kernel_rfl) (fun _ _ _ h => h) (Or.inl ⟨by kernel_rfl, ?_⟩) hS ?_
      rotate_left
      · intro w hSw; skip; go_simp
        first | done | with_reducible rfl
      refine wpAnyH_takeE (i := 19) (some 74) (v := ?_) rfl rfl (by as_aux_lemma => kernel_rfl) (by as_aux_lemma => kernel_rfl) (by as_aux_lemma => kernel_rfl) (fun _ _ _ h => h) (Or.inl ⟨by kernel_rfl, ?_⟩) hS ?_
      rotate_left
      · intro w hSw; have hst := src_take hSw.1.2.2.1 kk HTk.out.2; rw [HTk.out.1] at hst; go_simp
        first | done | with_reducible rfl
      refine wpAnyH_takeE (i := 20) (some 75) (v := ?_) rfl rfl (by as_aux_lemma => kernel_rfl) (by as_aux_lemma => kernel_rfl) (by as_aux_lemma => kernel_rfl) (fun _ _ _ h => h) (Or.inl ⟨by kernel_rfl, ?_⟩) hS ?_
      rotate_left
      · intro w hSw; skip; go_simp
        first | done | with_reducible rfl
      refine wpAnyH_takeE (i := 21) (some 76) (v := ?_) rfl rfl (by as_aux_lemma => kernel_rfl) (by as_aux_lemma => kernel_rfl) (by as_aux_lemma => kernel_rfl) (fun _ _ _ h => h) (Or.inl ⟨by kernel_rfl, ?_⟩) hS ?_
      rotate_left
      · intro w hSw; skip; go_simp
        first | done | with_reducible rfl
      refine wpAnyH_takeE (i := 22) (some 77) (v := ?_) rfl rfl (by as_aux_lemma => kernel_rfl) (by as_aux_lemma => kernel_rfl) (by as_aux_lemma => kernel_rfl) (fun _ _ _ h => h) (Or.inl ⟨by kernel_rfl, ?_⟩) hS ?_
      rotate_left
      · intro w hSw; skip; go_simp
        first | done | with_reducible rfl
      refine wpAnyH_ready (rs := [23]) (by as_aux_lemma => kernel_rfl) (by simp) ?_
      refine AllReadyH.cons rfl (fun K hK => ?_) AllReadyH.nil
      go_simp
      go_wp2_with (go_at_call 10; refine (HA.out _ hS.1.2.2.2).mono ?_; rintro e u5 ⟨rfl, q5⟩)
      refine hK.out _ _ ?_ (fun hS => ?_)
      · exact ⟨⟨hS.1.1.on q5, hS.1.2.1.below q5, hS.1.2.2.1.below q5 (Nat.le_refl _), hS.1.2.2.2.trans (q5.mono hS.1.2.2.2.size)⟩, hS.2.below q5 (Nat.le_refl _)⟩
      clear hK K
      clear q5
      refine wpAnyH_takeE (i := 24) (some 79) (v := ?_) rfl rfl (by as_aux_lemma => kernel_rfl) (by as_aux_lemma => kernel_rfl) (by as_aux_lemma => kernel_rfl) (fun _ _ _ h => h) (Or.inl ⟨by kernel_rfl, ?_⟩) hS ?_
      rotate_left
      · intro w hSw; skip; go_simp
        first | done | with_reducible rfl
      refine wpAnyH_takeE (i := 25) (some 4) (v := ?_) rfl rfl (by as_aux_lemma => kernel_rfl) (by as_aux_lemma => kernel_rfl) (by as_aux_lemma => kernel_rfl) (fun _ _ _ h => h) (Or.inl ⟨by kernel_rfl, ?_⟩) hS ?_
      rotate_left
      · intro w hSw; skip; go_simp
        first | done | with_reducible rfl
      have HF := Lib.hid hS.1.2.2.2
      refine wpAnyH_done (by kernel_rfl) ?_ _
      clear hS
      go_simp
      go_wp2
      go_ret
      exact ⟨rfl, HF.out⟩

end Go.Proofs.YtfllfmdopfeecaaDoor
