/-
  The closed case of layer 14.
-/
import Derived.Test.YtkbonifbnbdbkaaDoorQ11
namespace Go.Proofs.YtkbonifbnbdbkaaDoor
open Go.RowKit Go.Shelf

theorem oneE_ok (k : ByteArray) (h : 0 < k.size ∧ k.size ≤ 1024) : (oneE k).Ok ∧ checkEn (oneE k) = 0 := by
  refine ⟨⟨by unfold oneE; dsimp only; omega, by unfold oneE; dsimp only; omega, by unfold oneE; dsimp only; omega⟩, ?_⟩
  unfold checkEn oneE
  dsimp only
  have hv : (⟨#[]⟩ : ByteArray).size = 0 := rfl
  rw [if_neg (by omega), if_neg (by omega)]
theorem perm_two {x y : Itm} {l : List Itm} (h : l.Perm [x, y]) (hs : l.Pairwise fun x y => ¬ lessQ y x) (hxy : lessQ y x) : l = [y, x] := by
  have hl := h.length_eq
  match l, hl with
  | [a, b], _ =>
    have hab : ¬ lessQ b a := by simpa using hs
    have ha : a ∈ [x, y] := h.mem_iff.1 (by simp)
    simp only [List.mem_cons, List.not_mem_nil, or_false] at ha
    rcases ha with rfl | rfl
    · have := List.perm_singleton.1 ((List.perm_cons a).1 h)
      simp only [List.cons.injEq, and_true] at this
      subst this
      exact absurd hxy hab
    · have h2 : [a, b].Perm [a, x] := h.trans (List.Perm.swap a x [])
      have := List.perm_singleton.1 ((List.perm_cons a).1 h2)
      simp only [List.cons.injEq, and_true] at this
      subst this
      rfl
theorem one_k : (putEn (oneE ⟨#[107]⟩)).length = 16 ∧ (putEn (oneE ⟨#[108]⟩)).length = 16 := by decide +kernel
def awK : Itm := ⟨oneE ⟨#[107]⟩, 0, 0⟩
def awL : Itm := ⟨oneE ⟨#[108]⟩, 0, 1⟩
theorem aw_take : takeQ 1000 [awL, awK] = ([oneE ⟨#[108]⟩, oneE ⟨#[107]⟩], [⟨oneE ⟨#[108]⟩, 1, 1⟩, ⟨oneE ⟨#[107]⟩, 1, 0⟩]) := by
  have h1 := one_k.1
  have h2 := one_k.2
  unfold takeQ takeQ takeQ awL awK szE
  simp only [h1, h2]
  rfl

set_option maxRecDepth 100000 in
set_option maxHeartbeats 4000000 in
theorem qawake_any (B0 : Nat) (W : World) (hB : B0 ≤ W.heap.size) (hv : TabE B0 W) :
    Calls Tryd.prog 13 #[] W fun e w' => e = .returned (.bool true) ∧ Below B0 W w' := by
  have HNw := Lib.hid (qNew_any B0 W hB)
  have HO1 : Hid (∀ w, Calls Tryd.prog 9 #[.string ⟨#[107]⟩] w fun e w' => e = .returned (.agg #[.string ⟨#[107]⟩, .int .i64 1, .int .u16 0, .string ⟨#[]⟩, .int .i64 5]) ∧ Below w.heap.size w w') := Lib.hid (fun w => qone_any _ w)
  have HO2 : Hid (∀ w, Calls Tryd.prog 9 #[.string ⟨#[108]⟩] w fun e w' => e = .returned (.agg #[.string ⟨#[108]⟩, .int .i64 1, .int .u16 0, .string ⟨#[]⟩, .int .i64 5]) ∧ Below w.heap.size w w') := Lib.hid (fun w => qone_any _ w)
  have okK := oneE_ok ⟨#[107]⟩ (by decide)
  have okL := oneE_ok ⟨#[108]⟩ (by decide)
  have HP1 : Hid (∀ sb w, QW B0 W w sb [] 0 0 → Calls Tryd.prog 8 #[.pointer (some ⟨sb, 0, none⟩), .agg #[.string ⟨#[107]⟩, .int .i64 1, .int .u16 0, .string ⟨#[]⟩, .int .i64 5]] w fun r w' => r = .returned (.bool true) ∧ QW B0 W w' sb [awK] 1 0) :=
    Lib.hid (fun sb w h => (pushB_yes B0 sb W [] 0 0 (oneE ⟨#[107]⟩) w h (by simp) (by omega) (by omega) okK.2 rfl).mono fun r w' ⟨hr, ⟨L1, k1, k2, k3⟩, _⟩ => by
      have e : L1 = [awK] := List.perm_singleton.1 (by simpa [awK] using k1)
      subst e
      exact ⟨hr, by simpa using k3⟩)
  have HP2 : Hid (∀ sb w, QW B0 W w sb [awK] 1 0 → Calls Tryd.prog 8 #[.pointer (some ⟨sb, 0, none⟩), .agg #[.string ⟨#[108]⟩, .int .i64 1, .int .u16 0, .string ⟨#[]⟩, .int .i64 5]] w fun r w' => r = .returned (.bool true) ∧ QW B0 W w' sb [awL, awK] 2 0) :=
    Lib.hid (fun sb w h => (pushB_yes B0 sb W [awK] 1 0 (oneE ⟨#[108]⟩) w h (by simp) (by omega) (by omega) okL.2 (by decide +kernel)).mono fun r w' ⟨hr, ⟨L1, k1, k2, k3⟩, _⟩ => by
      have e0 : ([awK].filter fun x => !sameK x.e (oneE ⟨#[108]⟩)) = [awK] := by simp [awK, oneE, sameK]
      rw [e0] at k1
      have e : L1 = [awL, awK] := perm_two (x := awK) (y := awL) k1 k2 (.inr ⟨rfl, by decide⟩)
      subst e
      exact ⟨hr, by simpa using k3⟩)
  have HP3 : Hid (∀ sb w, QW B0 W w sb [awL, awK] 2 0 → Calls Tryd.prog 8 #[.pointer (some ⟨sb, 0, none⟩), .agg #[.string ⟨#[108]⟩, .int .i64 1, .int .u16 0, .string ⟨#[]⟩, .int .i64 5]] w fun r w' => r = .returned (.bool false) ∧ QW B0 W w' sb [awL, awK] 2 0) :=
    Lib.hid (fun sb w h => (pushB_no B0 sb W [awL, awK] 2 0 (oneE ⟨#[108]⟩) w h (by simp) (.inr (by decide +kernel))).mono fun r w' ⟨hr, k, _⟩ => ⟨hr, k⟩)
  have HT : Hid (∀ sb w, QW B0 W w sb [awL, awK] 2 0 → Calls Tryd.prog 10 #[.pointer (some ⟨sb, 0, none⟩), .int .i64 1000, .int .i64 9] w fun e w' => (∃ a c, e = .returned (.slice a 2 c) ∧ EntsAt w' a [oneE ⟨#[108]⟩, oneE ⟨#[107]⟩]) ∧ ∃ L1 : List Itm, L1.length = 2 ∧ QW B0 W w' sb L1 2 0) :=
    Lib.hid (fun sb w h => by
      have hc := takeB B0 sb W [awL, awK] 2 0 1000 9 w h B0 (Nat.le_refl _) hv (by simp) (fun x hx => by
        simp only [List.mem_cons, List.not_mem_nil, or_false] at hx
        rcases hx with rfl | rfl
        · exact ⟨okL.1, okL.2, by decide, by decide⟩
        · exact ⟨okK.1, okK.2, by decide, by decide⟩) (by omega)
      rw [aw_take] at hc
      exact hc.mono fun e w' ⟨⟨a, c, he, hat⟩, ⟨L1, k1, _, k3⟩, _⟩ => ⟨⟨a, c, he, hat⟩, L1, by rw [k1.length_eq]; rfl, k3⟩)
  clear okK okL hv
  go_enter Tryd.func13, Tryd.ntmps13
  go_wp2_with (go_at_call 7; refine HNw.out.mono ?_; rintro e w1 ⟨sb, rfl, h1, -⟩; replace h1 := Lib.hid h1; refine Hid.out ?_)
  refine Lib.hid ?_
  go_wp2_with (go_at_call 9; refine (HO1.out _).mono ?_; rintro e w2 ⟨rfl, q2⟩; replace q2 := Lib.hid q2; refine Hid.out ?_)
  refine Lib.hid ?_
  have HQ2 := Lib.hid (HP1.out sb w2 (h1.out.on q2.out))
  go_wp2_with (go_at_call 8; refine HQ2.out.mono ?_; rintro e w3 ⟨rfl, h3⟩; replace h3 := Lib.hid h3; refine Hid.out ?_)
  refine Lib.hid ?_
  clear HQ2
  go_wp2_with (go_at_call 9; refine (HO2.out _).mono ?_; rintro e w4 ⟨rfl, q4⟩; replace q4 := Lib.hid q4; refine Hid.out ?_)
  refine Lib.hid ?_
  have HQ4 := Lib.hid (HP2.out sb w4 (h3.out.on q4.out))
  go_wp2_with (go_at_call 8; refine HQ4.out.mono ?_; rintro e w5 ⟨rfl, h5⟩; replace h5 := Lib.hid h5; refine Hid.out ?_)
  refine Lib.hid ?_
  clear HQ4
  go_wp2_with (go_at_call 9; refine (HO2.out _).mono ?_; rintro e w6 ⟨rfl, q6⟩; replace q6 := Lib.hid q6; refine Hid.out ?_)
  refine Lib.hid ?_
  have HQ6 := Lib.hid (HP3.out sb w6 (h5.out.on q6.out))
  go_wp2_with (go_at_call 8; refine HQ6.out.mono ?_; rintro e w7 ⟨rfl, h7⟩; replace h7 := Lib.hid h7; refine Hid.out ?_)
  refine Lib.hid ?_
  have HQ7 := Lib.hid (HT.out sb w7 h7.out)
  clear HQ6
  go_wp2_with (go_at_call 10; refine HQ7.out.mono ?_; rintro e w8 ⟨⟨a8, c8, rfl, hat8⟩, L1, hl1, h8⟩; replace h8 := Lib.hid h8; replace hl1 := Lib.hid hl1; replace hat8 := Lib.hid hat8; refine Hid.out ?_)
  refine Lib.hid ?_
  clear HQ7
  obtain ⟨b, o, rfl, -, hc⟩ := hat8.out (by simp)
  have x0 := hc 0 (by simp) 0 (.string ⟨#[108]⟩) rfl
  simp only [Nat.zero_mul, Nat.add_zero] at x0
  have hk : ((⟨#[108]⟩ : ByteArray).toList == [108]) = true := by decide +kernel
  have HL := Lib.hid (lenB B0 sb W L1 2 0 w8 h8.out)
  rw [hl1.out] at HL
  go_wp2_with (first | (go_at_call 11; refine HL.out.mono ?_; rintro e w9 ⟨rfl, hw⟩; have hw' := hw.symm; clear hw; subst hw') | (go_at_call 25; refine (qLimit_five _).mono ?_; rintro e w10 ⟨rfl, hw⟩; have hw' := hw.symm; clear hw; subst hw'))
  go_ret
  exact ⟨rfl, h8.out.2.2.1⟩

end Go.Proofs.YtkbonifbnbdbkaaDoor
