/-
  What Same of package crdt tells; a map of entries (of); the closed case of layer 10.
-/
import Derived.Test.YtkbonifbnbdbkabC5
namespace Go.Proofs.Ytkbonifbnbdbkab
open Go.RowKit Go.Maps Go.Shelf

theorem neqEn : NeqAt Try.prog 36 (fun x => .agg (encE x).toArray) eqEn := ⟨fun x y w => run_neE x y w, GuardAt.agg _ (by kernel_rfl)⟩
theorem allEqE_iff : ∀ (xs ys : List Ent), Lib.allEq eqEn xs ys = true ↔ xs = ys
  | [], [] => by simp [Lib.allEq]
  | [], _ :: _ => by simp [Lib.allEq]
  | _ :: _, [] => by simp [Lib.allEq]
  | x :: xs, y :: ys => by
    rw [Lib.allEq, Bool.and_eq_true, allEqE_iff xs ys, eqEn_iff, List.cons.injEq]
/-- Whether two lists of entries are one. -/
def sameC (xs ys : List Ent) : Bool := Lib.allEq eqEn xs ys
theorem sameC_refl (xs : List Ent) : sameC xs xs = true := (allEqE_iff xs xs).2 rfl
theorem sameC_len {xs ys : List Ent} (h : xs.length ≠ ys.length) : sameC xs ys = false := by
  rw [Bool.eq_false_iff]
  exact fun e => h (by rw [(allEqE_iff xs ys).1 e])

set_option maxHeartbeats 1000000 in
theorem EqualE_lens (a b : Option Addr) (n c m d : Nat) (w : World) (hn : n ≠ m) : Calls Try.prog 33 #[.slice a n c, .slice b m d] w fun e w' => e = .returned (.bool false) ∧ w' = w := by
  have h1 : ((n : Int) != (m : Int)) = true := by simp; omega
  have h2 : ¬ n = m := hn
  go_enter Try.func33, Try.ntmps33
  go_wp2
  go_ret
  exact ⟨rfl, rfl⟩
set_option maxHeartbeats 1000000 in
theorem EqualE_none (a b : Option Addr) (c d : Nat) (w : World) : Calls Try.prog 33 #[.slice a 0 c, .slice b 0 d] w fun e w' => e = .returned (.bool true) ∧ w' = w := by
  go_enter Try.func33, Try.ntmps33
  go_wp2
  refine wp_loop_rounds 1 ?_
  rw [rounds_succ]
  go_wp2
  go_ret
  exact ⟨rfl, rfl⟩
theorem ents_flat {w : World} {b o : Nat} {xs : List Ent} (h : ∀ i (hi : i < xs.length), ∀ j v, (encE xs[i])[j]? = some v → w.cell? ⟨b, o + i * 5 + j, none⟩ = some v) [Inhabited Ent] :
    ∀ j, j < xs.length → ∀ i v, (encE xs[j]!)[i]? = some v → w.cell? ⟨b, o + j * 5 + i, none⟩ = some v := fun j hj i v hv => by
  rw [getElem!_pos xs j hj] at hv
  exact h j hj i v hv
theorem EqualE_any (a b : Option Addr) (c d : Nat) (xs ys : List Ent) (w : World) (ha : EntsAt w a xs) (hb : EntsAt w b ys) (hn : xs.length ≤ 9223372036854775807) :
    Calls Try.prog 33 #[.slice a xs.length c, .slice b ys.length d] w fun e w' => e = .returned (.bool (sameC xs ys)) ∧ ∃ q, w' = w.drewN q := by
  haveI : Inhabited Ent := ⟨zeroE⟩
  by_cases hl : xs.length = ys.length
  · by_cases hz : 0 < xs.length
    · obtain ⟨b1, o1, rfl, -, h1⟩ := ha hz
      obtain ⟨b2, o2, rfl, -, h2⟩ := hb (by omega)
      have hc := AnyQ.slices_Equal Try.lEqualE 5 Try.isAgg36 Try.sizeOf36 encE (fun _ => rfl) eqEn neqEn b1 o1 xs.length c b2 o2 ys.length d xs ys w (Nat.le_refl _) (Nat.le_refl _) hn (by omega) (ents_flat h1) (ents_flat h2)
      rw [List.take_length, List.take_length] at hc
      exact hc
    · obtain rfl := List.eq_nil_of_length_eq_zero (show xs.length = 0 by omega)
      obtain rfl := List.eq_nil_of_length_eq_zero (show ys.length = 0 by simpa using hl.symm)
      exact (EqualE_none a b c d w).mono fun e w' ⟨he, hw⟩ => ⟨he, 0, hw⟩
  · rw [sameC_len hl]
    exact (EqualE_lens a b _ c _ d w hl).mono fun e w' ⟨he, hw⟩ => ⟨he, 0, hw⟩
theorem below_drewE {B : Nat} {w w' : World} (h : Below B w w') (q : Nat) : Below B w (w'.drewN q) := ⟨h.os, h.tape, h.output, h.size, h.block⟩
set_option maxHeartbeats 1000000 in
theorem cSame_any (a b : Option Addr) (c d : Nat) (xs ys : List Ent) (w : World) (ha : EntsAt w a xs) (hb : EntsAt w b ys) (hn : xs.length ≤ 9223372036854775807) (n m : Nat) (hnx : n = xs.length) (hmy : m = ys.length) :
    Calls Try.prog 17 #[.slice a n c, .slice b m d] w fun e w' => e = .returned (.bool (sameC xs ys)) ∧ Below w.heap.size w w' := by
  subst hnx hmy
  have HE := Lib.hid (EqualE_any a b c d xs ys w ha hb hn)
  generalize sameC xs ys = R at HE ⊢
  generalize xs.length = n at *
  generalize ys.length = m at *
  clear ha hb
  go_enter Try.func17, Try.ntmps17
  go_wp2_with (go_at_call 33; refine HE.out.mono ?_; rintro e w1 ⟨rfl, q, rfl⟩)
  go_ret
  exact ⟨rfl, below_drewE (Below.refl _ _) q⟩


theorem EntsAt.one (w : World) (x : Ent) : EntsAt (w.alloc (.cells #[.string x.k, .int .i64 x.t, .int .u16 x.o, .string x.v, .int .i64 x.u] 36)) (some ⟨w.heap.size, 0, none⟩) [x] := fun _ => ⟨_, _, rfl, by simp, fun i hi j v hv => by
  obtain rfl : i = 0 := by simpa using hi
  have hv' : (encE x)[j]? = some v := hv
  simp only [Nat.zero_mul, Nat.zero_add]
  rw [cellE (EBlk.new w x)]
  simpa [encE] using hv'⟩
def awC5 : Ent := ⟨⟨#[107]⟩, 5, 0, ⟨#[]⟩, 9⟩
def awC4 : Ent := ⟨⟨#[107]⟩, 4, 0, ⟨#[]⟩, 9⟩
theorem awC_1 : cputE [] awC5 = 0 ∧ cputB [] awC5 = true ∧ cputS [] awC5 = [awC5] := ⟨by kernel_rfl, by kernel_rfl, by kernel_rfl⟩
theorem awC_2 : cputE [awC5] awC4 = 0 ∧ cputB [awC5] awC4 = false ∧ cputS [awC5] awC4 = [awC5] := ⟨by kernel_rfl, by kernel_rfl, by kernel_rfl⟩
theorem awC_3 : deltaS [awC5] [awC4] = [awC5] := by kernel_rfl

set_option maxRecDepth 100000 in
set_option maxHeartbeats 4000000 in
theorem cawake_any (w : World) : Calls Try.prog 6 #[] w fun e w' => e = .returned (.bool true) ∧ Below w.heap.size w w' := by
  have HW := Lib.hid (cNew_at w)
  go_enter Try.func6, Try.ntmps6
  go_wp2_with (go_at_call 7; refine HW.out.mono ?_; rintro e w1 ⟨rfl, h1, q1⟩; refine Hid.out ?_)
  refine Lib.hid ?_
  have hP := cPut_any _ _ _ awC5 _ h1
  rw [awC_1.1, awC_1.2.1, awC_1.2.2] at hP
  dsimp only [awC5] at hP
  have HP := Lib.hid hP
  have HQ := Lib.hid q1
  clear hP h1 q1 HW
  go_wp2_with (go_at_call 22; refine HP.out.mono ?_; rintro e w2 ⟨rfl, h2, g2⟩; refine Hid.out ?_)
  refine Lib.hid ?_
  have q2 := HQ.out.grown g2 HQ.out.size (fun j hj => by cases hj; exact Nat.le_refl _)
  have hP := cPut_any _ _ _ awC4 _ h2
  change Calls _ _ _ _ fun e w' => e = .returned (.tuple #[.bool (cputB [awC5] awC4), .int .i64 (cputE [awC5] awC4)]) ∧ CAt w' (w.heap.size + 1) w.heap.size (cputS [awC5] awC4) ∧ w2.grownBy w' (some w.heap.size) at hP
  rw [awC_2.1, awC_2.2.1, awC_2.2.2] at hP
  dsimp only [awC4] at hP
  have HP2 := Lib.hid hP
  have HQ2 := Lib.hid q2
  clear hP h2 g2 q2 HP HQ
  go_wp2_with (go_at_call 22; refine HP2.out.mono ?_; rintro e w3 ⟨rfl, h3, g3⟩; refine Hid.out ?_)
  refine Lib.hid ?_
  have q3 := HQ2.out.grown g3 HQ2.out.size (fun j hj => by cases hj; exact Nat.le_refl _)
  have d4 := (Below.refl w3.heap.size w3).alloc (Nat.le_refl _) (.cells #[.string ⟨#[107]⟩, .int .i64 4, .int .u16 0, .string ⟨#[]⟩, .int .i64 9] 36)
  have z4 := EBlk.new w3 awC4
  have h4 := h3.on d4
  have he4 : EntsAt (w3.alloc (.cells #[.string ⟨#[107]⟩, .int .i64 4, .int .u16 0, .string ⟨#[]⟩, .int .i64 9] 36)) (some ⟨w3.heap.size, 0, none⟩) [awC4] := EntsAt.one w3 awC4
  have HD := Lib.hid (cDelta_any _ _ _ _ 1 [awC4] _ h4 he4 (fun y hy => by
    have e : y = awC4 := by simpa using hy
    rw [e]
    exact (show awC4.k.size ≤ 9223372036854775807 by decide)) (by decide) 1 rfl)
  rw [awC_3] at HD
  have q4 := q3.trans (d4.mono q3.size)
  have HZ := Lib.hid (And.intro h4 q4)
  clear q3 d4 z4 h4 he4 q4 h3 g3 HP2 HQ2
  go_wp2_with (go_at_call 15; refine HD.out.mono ?_; rintro e w5 ⟨v, rfl, ho5, q5⟩; refine Hid.out ?_)
  refine Lib.hid ?_
  obtain ⟨h4, q4⟩ := HZ.out
  have h5 := h4.on q5
  have p5 := q4.trans (q5.mono q4.size)
  obtain ⟨a5, c5, rfl, -, -, he5⟩ := ho5.form
  obtain ⟨b5, o5, rfl, -, -, k1, -⟩ := he5.cells 0 (by decide)
  change w5.cell? ⟨b5, o5 + 0 * 5 + 1, none⟩ = some (.int .i64 5) at k1
  rw [Nat.zero_mul, Nat.add_zero] at k1
  have HL := Lib.hid (cLen_any _ _ _ w5 h5)
  have HP5 := Lib.hid p5
  clear h4 q4 h5 p5 he5 ho5 q5 HD HZ
  go_wp2_with (go_at_call 24; refine HL.out.mono ?_; rintro e w6 ⟨rfl, rfl⟩)
  go_ret
  exact ⟨rfl, HP5.out⟩

end Go.Proofs.Ytkbonifbnbdbkab
