/-
  The reference's Put, whole; whether a map and one of the reference have the same.
-/
import Derived.Test.YtkbonifbnbdbkabC17
import Derived.Test.YtkbonifbnbdbkabC13
namespace Go.Proofs.Ytkbonifbnbdbkab
open Go.RowKit Go.Maps

theorem isAtC_got {S : List Ent} {k : List UInt8} (hR : RisingC S) : (isAtC S k = true → ∃ hl : placeC S k < S.length, S[placeC S k].key = k ∧ gotC S k = some S[placeC S k]) ∧ (isAtC S k = false → gotC S k = none ∧ ∀ hl : placeC S k < S.length, S[placeC S k].key ≠ k) := by
  have hf := find_placeC k hR
  refine ⟨fun h => ?_, fun h => ?_⟩
  · have hl : placeC S k < S.length := by
      by_cases hl : placeC S k < S.length
      · exact hl
      · unfold isAtC at h
        rw [List.getElem?_eq_none (by omega)] at h
        cases h
    refine ⟨hl, ?_, ?_⟩
    · unfold isAtC at h
      rw [List.getElem?_eq_getElem hl] at h
      simpa using h
    · rw [h, if_pos rfl, List.getElem?_eq_getElem hl] at hf
      exact hf
  · refine ⟨by rw [h] at hf; exact hf, fun hl e => ?_⟩
    unfold isAtC at h
    rw [List.getElem?_eq_getElem hl] at h
    simp [e] at h
theorem keyEq {x y : Ent} : (x.k.toList == y.k.toList) = decide (x.key = y.key) := by
  rw [ByteArray.toList_eq, ByteArray.toList_eq]
  show (x.key == y.key) = _
  by_cases h : x.key = y.key <;> simp [h]
theorem crPut_any (a : Option Addr) (c : Nat) (S : List Ent) (x : Ent) (w : World) (h : RefM w a c S) (hR : RisingC S) (hn : S.length ≤ 256) (n : Nat) (hnl : n = S.length) :
    Calls Try.prog 25 #[.agg #[.slice a n c], .agg #[.string x.k, .int .i64 x.t, .int .u16 x.o, .string x.v, .int .i64 x.u]] w (CPutPost w S x) := by
  obtain ⟨kx, tx, ox, vx, ux⟩ := x
  by_cases hE : checkEn ⟨kx, tx, ox, vx, ux⟩ = 0
  · obtain ⟨i1, i2⟩ := isAtC_got (k := Ent.key ⟨kx, tx, ox, vx, ux⟩) hR
    obtain ⟨P, hP⟩ : ∃ P, placeC S (Ent.key ⟨kx, tx, ox, vx, ux⟩) = P := ⟨_, rfl⟩
    have hPle : P ≤ n := by rw [hnl, ← hP]; exact placeC_le _ _
    cases hat : isAtC S (Ent.key ⟨kx, tx, ox, vx, ux⟩) with
    | false =>
      obtain ⟨g1, g2⟩ := i2 hat
      by_cases hPn : P = n
      · by_cases h6 : 256 ≤ S.length
        · exact crPut_full2 a c S kx tx ox vx ux w h hn n hnl hE P hP hPn g1 h6
        · exact crPut_new2 a c S kx tx ox vx ux w h hR hn n hnl hE P hP hPn g1 h6 hat
      · have hy : ∀ hl : P < S.length, (S[P].k.toList == kx.toList) = false := fun hl => by
          subst hP
          rw [show (S[placeC S (Ent.key ⟨kx, tx, ox, vx, ux⟩)].k.toList == kx.toList) = decide (S[placeC S (Ent.key ⟨kx, tx, ox, vx, ux⟩)].key = Ent.key ⟨kx, tx, ox, vx, ux⟩) from keyEq (y := ⟨kx, tx, ox, vx, ux⟩)]
          exact decide_eq_false (g2 hl)
        by_cases h6 : 256 ≤ S.length
        · exact crPut_full1 a c S kx tx ox vx ux w h hn n hnl hE P hP (by omega) hy g1 h6
        · exact crPut_new1 a c S kx tx ox vx ux w h hR hn n hnl hE P hP (by omega) hy g1 h6 hat
    | true =>
      obtain ⟨hl, g1, g2⟩ := i1 hat
      subst hP
      have hy : ∀ hl : placeC S (Ent.key ⟨kx, tx, ox, vx, ux⟩) < S.length, (S[placeC S (Ent.key ⟨kx, tx, ox, vx, ux⟩)].k.toList == kx.toList) = true := fun hl => by
        rw [show (S[placeC S (Ent.key ⟨kx, tx, ox, vx, ux⟩)].k.toList == kx.toList) = decide (S[placeC S (Ent.key ⟨kx, tx, ox, vx, ux⟩)].key = Ent.key ⟨kx, tx, ox, vx, ux⟩) from keyEq (y := ⟨kx, tx, ox, vx, ux⟩)]
        exact decide_eq_true g1
      cases hab : aboveE ⟨kx, tx, ox, vx, ux⟩ S[placeC S (Ent.key ⟨kx, tx, ox, vx, ux⟩)] with
      | false => exact crPut_low a c S kx tx ox vx ux w h hn n hnl hE _ rfl (by omega) hy (fun _ => g2) (fun _ => hab)
      | true => exact crPut_old a c S kx tx ox vx ux w h hR hn n hnl hE _ rfl (by omega) hy (fun _ => g2) (fun _ => hab) hat
  · exact crPut_err a c S kx tx ox vx ux w h hn n hnl hE

theorem cellsC_key : ∀ (L : List Ent) (k : Nat) (_ : k < L.length) (q : ByteArray), ∃ M : List Ent, M.length = L.length ∧ (cellsC L).set (k * 5) (.string q) = cellsC M
  | p :: r, 0, _, q => ⟨⟨q, p.t, p.o, p.v, p.u⟩ :: r, rfl, rfl⟩
  | p :: r, k + 1, hk, q => by
    obtain ⟨M, h1, h2⟩ := cellsC_key r k (by simpa using hk) q
    have e : ∀ (p : Ent) (r : List Ent), cellsC (p :: r) = .string p.k :: .int .i64 p.t :: .int .u16 p.o :: .string p.v :: .int .i64 p.u :: cellsC r := fun _ _ => rfl
    refine ⟨p :: M, by simp [h1], ?_⟩
    rw [e, e, show (k + 1) * 5 = k * 5 + 1 + 1 + 1 + 1 + 1 by omega]
    simp only [List.set_cons_succ]
    rw [h2]
theorem ownC_key {w : World} {B g c : Nat} {L : List Ent} (h : OwnC w B (.slice (some ⟨g, 0, none⟩) L.length c) L) (k : Nat) (hk : k < L.length) (q : ByteArray) :
    ∃ M : List Ent, M.length = L.length ∧ OwnC (w.setCell ⟨g, k * 5, none⟩ (.string q)) B (.slice (some ⟨g, 0, none⟩) M.length c) M ∧ w.grownBy (w.setCell ⟨g, k * 5, none⟩ (.string q)) (some g) := by
  obtain ⟨M, h1, h2⟩ := cellsC_key L k hk q
  obtain ⟨h0, g0⟩ := World.ownsRow.stored h (k * 5) (.string q)
  refine ⟨M, h1, ?_, g0⟩
  unfold OwnC
  rw [h1, ← h2]
  exact h0

set_option maxRecDepth 100000 in
set_option maxHeartbeats 8000000 in
theorem csame_any (sb bm : Nat) (S : List Ent) (a : Option Addr) (c : Nat) (w : World) (h : CAt w sb bm S) (he : EntsAt w a S) (n : Nat) (hn : n = S.length) :
    Calls Try.prog 18 #[.pointer (some ⟨sb, 0, none⟩), .agg #[.slice a n c]] w fun e w' => e = .returned (.bool true) ∧ Below w.heap.size w w' := by
  have d1 := (Below.refl w.heap.size w).alloc (Nat.le_refl _) (.cells #[.slice a n c] 30)
  have b1 := RmBlk.new w a n c
  have hn1 : n ≤ 256 := by have := h.2.2.2; omega
  have HLs : Hid (∀ W, CAt W sb bm S → Calls Try.prog 23 #[.pointer (some ⟨sb, 0, none⟩)] W fun e w' => ∃ a7 c7, e = .returned (.slice a7 n c7) ∧ OwnC w' W.heap.size (.slice a7 n c7) S ∧ EntsAt w' a7 S ∧ Below W.heap.size W w') := Lib.hid (fun W hW => (cList_any sb bm S W hW).mono fun e w' ⟨v, e1, e2, e3⟩ => by
    obtain ⟨a7, c7, rfl, -, -, e7⟩ := e2.form
    rw [← hn] at e1 e2
    exact ⟨a7, c7, e1, e2, e7, e3⟩)
  have HSm : Hid (∀ W a1 c1 a2 c2, EntsAt W a1 S → EntsAt W a2 S → Calls Try.prog 12 #[.slice a1 n c1, .slice a2 n c2] W fun e w' => e = .returned (.bool true) ∧ Below W.heap.size W w') := Lib.hid (fun W a1 c1 a2 c2 h1 h2 => by
    have := crSame_any a1 a2 c1 c2 S S W h1 h2 (by omega) n n hn hn
    rw [sameC_refl] at this
    exact this)
  have HLn : Hid (∀ W, CAt W sb bm S → Calls Try.prog 24 #[.pointer (some ⟨sb, 0, none⟩)] W fun e w' => e = .returned (.int .i64 (n : Int)) ∧ w' = W) := Lib.hid (fun W hW => by
    have := cLen_any sb bm S W hW
    rw [← hn] at this
    exact this)
  have HN := Lib.hid hn
  have HL := Lib.hid (HLs.out _ (h.on d1))
  have HS := Lib.hid (And.intro (h.on d1) (And.intro (he.on d1) (And.intro b1 d1)))
  clear h he d1 b1 hn
  go_enter Try.func18, Try.ntmps18
  go_wp2_with (go_at_call 23; refine HL.out.mono ?_; rintro e w2 ⟨a5, c5, rfl, ho, e5, q2⟩; replace ho := Lib.hid ho; replace q2 := Lib.hid q2; replace e5 := Lib.hid e5; refine Hid.out ?_)
  refine Lib.hid ?_
  generalize w.alloc (.cells #[.slice a n c] 30) = w1 at *
  go_wp2_with fail
  obtain ⟨m1, x1, b1, d1⟩ := HS.out
  refine wp_region_any (by kernel_rfl) ?_
  change wpAny _ _ _ _ _ _ _ (World.drew _)
  have hS : (fun w' : World => CAt w' sb bm S ∧ EntsAt w' a S ∧ RmBlk w' w.heap.size a n c ∧ EntsAt w' a5 S ∧ OwnC w' w1.heap.size (.slice a5 n c5) S ∧ Below w1.heap.size w1 w') w2.drew := ⟨m1.on q2.out.drew, x1.on q2.out.drew, b1.on q2.out.drew, e5.out, ho.out.on (Below.refl _ _).drew, q2.out.drew⟩
  refine wpAny_of_held (S := fun w' => CAt w' sb bm S ∧ EntsAt w' a S ∧ RmBlk w' w.heap.size a n c ∧ EntsAt w' a5 S ∧ OwnC w' w1.heap.size (.slice a5 n c5) S ∧ Below w1.heap.size w1 w') _ _ _ _ ?_
  clear m1 x1 b1 d1 ho e5 q2 HL
  refine wpAnyH_takeE (i := 0) (some 10) (v := ?_) rfl rfl (by as_aux_lemma => kernel_rfl) (by as_aux_lemma => kernel_rfl) (by as_aux_lemma => kernel_rfl) (fun _ _ _ h => h) (Or.inl ⟨by kernel_rfl, ?_⟩) hS ?_
  rotate_left
  · intro w hSw; have c0 := hSw.2.2.1.c0; go_simp
    first | done | with_reducible rfl
  refine wpAnyH_takeE (i := 1) (some 11) (v := ?_) rfl rfl (by as_aux_lemma => kernel_rfl) (by as_aux_lemma => kernel_rfl) (by as_aux_lemma => kernel_rfl) (fun _ _ _ h => h) (Or.inl ⟨by kernel_rfl, ?_⟩) hS ?_
  rotate_left
  · intro w hSw; have c0 := hSw.2.2.1.c0; go_simp
    first | done | with_reducible rfl
  refine wpAnyH_takeE (i := 2) (some 12) (v := ?_) rfl rfl (by as_aux_lemma => kernel_rfl) (by as_aux_lemma => kernel_rfl) (by as_aux_lemma => kernel_rfl) (fun _ _ _ h => h) (Or.inl ⟨by kernel_rfl, ?_⟩) hS ?_
  rotate_left
  · intro w hSw; have c0 := hSw.2.2.1.c0; go_simp
    first | done | with_reducible rfl
  refine wpAnyH_ready (rs := [3]) (by as_aux_lemma => kernel_rfl) (by simp) ?_
  refine AllReadyH.cons rfl (fun K hK => ?_) AllReadyH.nil
  go_simp
  go_wp2_with (go_at_call 12; refine (HSm.out _ _ _ _ _ hS.2.2.2.1 hS.2.1).mono ?_; rintro e u3 ⟨rfl, q3⟩)
  refine hK.out _ _ ?_ (fun hS => ?_)
  · exact ⟨hS.1.on q3, hS.2.1.on q3, hS.2.2.1.on q3, hS.2.2.2.1.on q3, hS.2.2.2.2.1.on q3, hS.2.2.2.2.2.trans (q3.mono hS.2.2.2.2.2.size)⟩
  clear hK K
  clear q3
  refine wpAnyH_takeE (i := 4) (some 14) (v := ?_) rfl rfl (by as_aux_lemma => kernel_rfl) (by as_aux_lemma => kernel_rfl) (by as_aux_lemma => kernel_rfl) (fun _ _ _ h => h) (Or.inl ⟨by kernel_rfl, ?_⟩) hS ?_
  rotate_left
  · intro w hSw; have c0 := hSw.2.2.1.c0; go_simp
    first | done | with_reducible rfl
  refine wpAnyH_takeE (i := 5) (some 15) (v := ?_) rfl rfl (by as_aux_lemma => kernel_rfl) (by as_aux_lemma => kernel_rfl) (by as_aux_lemma => kernel_rfl) (fun _ _ _ h => h) (Or.inl ⟨by kernel_rfl, ?_⟩) hS ?_
  rotate_left
  · intro w hSw; have c0 := hSw.2.2.1.c0; go_simp
    first | done | with_reducible rfl
  refine wpAnyH_takeE (i := 7) (some 17) (v := ?_) rfl rfl (by as_aux_lemma => kernel_rfl) (by as_aux_lemma => kernel_rfl) (by as_aux_lemma => kernel_rfl) (fun _ _ _ h => h) (Or.inl ⟨by kernel_rfl, ?_⟩) hS ?_
  rotate_left
  · intro w hSw; have c0 := hSw.2.2.1.c0; go_simp
    first | done | with_reducible rfl
  refine wpAnyH_takeE (i := 8) (some 18) (v := ?_) rfl rfl (by as_aux_lemma => kernel_rfl) (by as_aux_lemma => kernel_rfl) (by as_aux_lemma => kernel_rfl) (fun _ _ _ h => h) (Or.inl ⟨by kernel_rfl, ?_⟩) hS ?_
  rotate_left
  · intro w hSw; have c0 := hSw.2.2.1.c0; go_simp
    first | done | with_reducible rfl
  refine wpAnyH_takeE (i := 9) (some 19) (v := ?_) rfl rfl (by as_aux_lemma => kernel_rfl) (by as_aux_lemma => kernel_rfl) (by as_aux_lemma => kernel_rfl) (fun _ _ _ h => h) (Or.inl ⟨by kernel_rfl, ?_⟩) hS ?_
  rotate_left
  · intro w hSw; have c0 := hSw.2.2.1.c0; go_simp
    first | done | with_reducible rfl
  refine wpAnyH_ready (rs := [6]) (by as_aux_lemma => kernel_rfl) (by simp) ?_
  refine AllReadyH.cons rfl (fun K hK => ?_) AllReadyH.nil
  go_simp
  go_wp2_with (go_at_call 24; refine (HLn.out _ hS.1).mono ?_; rintro e u4 ⟨rfl, hw⟩; have hw' := hw.symm; clear hw; subst hw')
  refine hK.out _ _ ?_ (fun hS => ?_)
  · exact hS
  clear hK K
  refine wpAnyH_takeE (i := 10) (some 20) (v := ?_) rfl rfl (by as_aux_lemma => kernel_rfl) (by as_aux_lemma => kernel_rfl) (by as_aux_lemma => kernel_rfl) (fun _ _ _ h => h) (Or.inl ⟨by kernel_rfl, ?_⟩) hS ?_
  rotate_left
  · intro w hSw; have c0 := hSw.2.2.1.c0; go_simp
    first | done | with_reducible rfl
  refine wpAnyH_takeE (i := 11) (some 21) (v := ?_) rfl rfl (by as_aux_lemma => kernel_rfl) (by as_aux_lemma => kernel_rfl) (by as_aux_lemma => kernel_rfl) (fun _ _ _ h => h) (Or.inl ⟨by kernel_rfl, ?_⟩) hS ?_
  rotate_left
  · intro w hSw; have c0 := hSw.2.2.1.c0; go_simp
    first | done | with_reducible rfl
  refine wpAnyH_takeE (i := 12) (some 6) (v := ?_) rfl rfl (by as_aux_lemma => kernel_rfl) (by as_aux_lemma => kernel_rfl) (by as_aux_lemma => kernel_rfl) (fun _ _ _ h => h) (Or.inl ⟨by kernel_rfl, ?_⟩) hS ?_
  rotate_left
  · intro w hSw; have c0 := hSw.2.2.1.c0; go_simp
    first | done | with_reducible rfl
  have HO := Lib.hid (And.intro hS.2.2.2.2.1 hS.2.2.2.2.2)
  refine wpAnyH_done (by kernel_rfl) ?_ _
  clear hS
  go_simp
  go_wp2
  go_loopw [7] (fun i wr => ∃ (k : Nat) (M : List Ent), k ≤ n ∧ i = .int .i64 (k : Int) ∧ Hid (n = M.length ∧ OwnC wr w1.heap.size (.slice a5 n c5) M ∧ Below w1.heap.size w1 wr)) (fun i _ => n - (intOf i).toNat)
  case atStart => exact ⟨0, S, Nat.zero_le _, rfl, Lib.hid ⟨HN.out, HO.out.1, HO.out.2⟩⟩
  case round =>
    clear HO
    obtain ⟨k, M, hk, rfl, HM⟩ := hrel
    by_cases hlt : k < n
    · have hkl : (k : Int) < (n : Int) := by omega
      obtain ⟨hML, hown, hB⟩ := HM.out
      obtain ⟨a6, c6, ev, -, hq, he⟩ := hown.form
      obtain ⟨rfl, -, rfl⟩ := Value.slice.inj ev
      obtain ⟨b, o, ea, hb, z0, -, -, -, -⟩ := he.cells k (by rw [← hML]; exact hlt)
      obtain ⟨hwb, -, hoo⟩ := hq _ ea
      obtain rfl : o = 0 := by simpa using hoo
      subst ea
      rw [Nat.zero_add] at z0
      obtain ⟨zv, z1⟩ : ∃ zv, wr.cell? ⟨b, k * 5, none⟩ = some (.string zv) := ⟨_, z0⟩
      clear z0
      rw [hML] at hown
      have f0 := hown.frz (k * 5)
      obtain ⟨M', hM', hown', g'⟩ := ownC_key hown k (by rw [← hML]; exact hlt) ⟨#[63]⟩
      have HM2 : Hid (n = M'.length ∧ OwnC (wr.setCell ⟨b, k * 5, none⟩ (.string ⟨#[63]⟩)) w1.heap.size (.slice (some ⟨b, 0, none⟩) n c5) M' ∧ Below w1.heap.size w1 (wr.setCell ⟨b, k * 5, none⟩ (.string ⟨#[63]⟩))) := Lib.hid ⟨by omega, by rw [hML, ← hM']; exact hown', hB.grown g' hB.size (fun j hj => by cases hj; exact hwb)⟩
      skip
      clear hown hown' g' hM' HM hB he hq hoo ev hML hb hwb
      go_wp2
      go_roundw
      case rel => exact ⟨k + 1, M', by omega, by go_num, HM2⟩
      case measure => simp [intOf]; omega
    · have hkl : ¬ (k : Int) < (n : Int) := by omega
      obtain ⟨m1, x1, b1, d1⟩ := HS.out
      have q2 := HM.out.2.2
      go_wp2_with fail
      refine wp_region_any (by kernel_rfl) ?_
      change wpAny _ _ _ _ _ _ _ (World.drew _)
      have hS : (fun w' : World => CAt w' sb bm S ∧ EntsAt w' a S ∧ RmBlk w' w.heap.size a n c ∧ Below w1.heap.size w1 w') wr.drew := ⟨m1.on q2.drew, x1.on q2.drew, b1.on q2.drew, q2.drew⟩
      refine wpAny_of_held (S := fun w' => CAt w' sb bm S ∧ EntsAt w' a S ∧ RmBlk w' w.heap.size a n c ∧ Below w1.heap.size w1 w') _ _ _ _ ?_
      clear m1 x1 b1 d1 HM q2
      refine wpAnyH_takeE (i := 0) (some 32) (v := ?_) rfl rfl (by as_aux_lemma => kernel_rfl) (by as_aux_lemma => kernel_rfl) (by as_aux_lemma => kernel_rfl) (fun _ _ _ h => h) (Or.inl ⟨by kernel_rfl, ?_⟩) hS ?_
      rotate_left
      · intro w hSw; have c0 := hSw.2.2.1.c0; go_simp
        first | done | with_reducible rfl
      refine wpAnyH_takeE (i := 1) (some 33) (v := ?_) rfl rfl (by as_aux_lemma => kernel_rfl) (by as_aux_lemma => kernel_rfl) (by as_aux_lemma => kernel_rfl) (fun _ _ _ h => h) (Or.inl ⟨by kernel_rfl, ?_⟩) hS ?_
      rotate_left
      · intro w hSw; have c0 := hSw.2.2.1.c0; go_simp
        first | done | with_reducible rfl
      refine wpAnyH_takeE (i := 2) (some 34) (v := ?_) rfl rfl (by as_aux_lemma => kernel_rfl) (by as_aux_lemma => kernel_rfl) (by as_aux_lemma => kernel_rfl) (fun _ _ _ h => h) (Or.inl ⟨by kernel_rfl, ?_⟩) hS ?_
      rotate_left
      · intro w hSw; have c0 := hSw.2.2.1.c0; go_simp
        first | done | with_reducible rfl
      refine wpAnyH_takeE (i := 4) (some 36) (v := ?_) rfl rfl (by as_aux_lemma => kernel_rfl) (by as_aux_lemma => kernel_rfl) (by as_aux_lemma => kernel_rfl) (fun _ _ _ h => h) (Or.inl ⟨by kernel_rfl, ?_⟩) hS ?_
      rotate_left
      · intro w hSw; have c0 := hSw.2.2.1.c0; go_simp
        first | done | with_reducible rfl
      refine wpAnyH_takeE (i := 5) (some 37) (v := ?_) rfl rfl (by as_aux_lemma => kernel_rfl) (by as_aux_lemma => kernel_rfl) (by as_aux_lemma => kernel_rfl) (fun _ _ _ h => h) (Or.inl ⟨by kernel_rfl, ?_⟩) hS ?_
      rotate_left
      · intro w hSw; have c0 := hSw.2.2.1.c0; go_simp
        first | done | with_reducible rfl
      refine wpAnyH_ready (rs := [3]) (by as_aux_lemma => kernel_rfl) (by simp) ?_
      refine AllReadyH.cons rfl (fun K hK => ?_) AllReadyH.nil
      go_simp
      go_wp2_with (go_at_call 23; refine (HLs.out _ hS.1).mono ?_; rintro e u5 ⟨a7, c7, rfl, -, e7, q5⟩)
      refine hK.out _ _ ?_ (fun hS => ?_)
      · exact ⟨hS.1.on q5, hS.2.1.on q5, hS.2.2.1.on q5, hS.2.2.2.trans (q5.mono hS.2.2.2.size)⟩
      clear hK K
      clear q5
      refine wpAnyH_ready (rs := [6]) (by as_aux_lemma => kernel_rfl) (by simp) ?_
      refine AllReadyH.cons rfl (fun K hK => ?_) AllReadyH.nil
      go_simp
      go_wp2_with (go_at_call 12; refine (HSm.out _ _ _ _ _ e7 hS.2.1).mono ?_; rintro e u6 ⟨rfl, q6⟩)
      refine hK.out _ _ ?_ (fun hS => ?_)
      · exact ⟨hS.1.on q6, hS.2.1.on q6, hS.2.2.1.on q6, hS.2.2.2.trans (q6.mono hS.2.2.2.size)⟩
      clear hK K
      clear q6 e7
      refine wpAnyH_takeE (i := 7) (some 39) (v := ?_) rfl rfl (by as_aux_lemma => kernel_rfl) (by as_aux_lemma => kernel_rfl) (by as_aux_lemma => kernel_rfl) (fun _ _ _ h => h) (Or.inl ⟨by kernel_rfl, ?_⟩) hS ?_
      rotate_left
      · intro w hSw; have c0 := hSw.2.2.1.c0; go_simp
        first | done | with_reducible rfl
      refine wpAnyH_takeE (i := 8) (some 4) (v := ?_) rfl rfl (by as_aux_lemma => kernel_rfl) (by as_aux_lemma => kernel_rfl) (by as_aux_lemma => kernel_rfl) (fun _ _ _ h => h) (Or.inl ⟨by kernel_rfl, ?_⟩) hS ?_
      rotate_left
      · intro w hSw; have c0 := hSw.2.2.1.c0; go_simp
        first | done | with_reducible rfl
      have HF := Lib.hid (HS.out.2.2.2.trans (hS.2.2.2.mono HS.out.2.2.2.size))
      refine wpAnyH_done (by kernel_rfl) ?_ _
      clear hS
      go_simp
      go_wp2
      go_ret
      exact ⟨rfl, HF.out⟩

end Go.Proofs.Ytkbonifbnbdbkab
