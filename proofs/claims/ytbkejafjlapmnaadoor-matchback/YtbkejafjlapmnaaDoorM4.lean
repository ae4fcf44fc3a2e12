/-
  The closed case of every statement of layer 4: it answers true, whatever else lies in memory.
-/
import Derived.Test.YtbkejafjlapmnaaDoorM3
namespace Go.Proofs.YtbkejafjlapmnaaDoor
open Go.RowKit

def awkA : Lang := altL (altL noL (catL epsL (setL (addB noneB 49 49)))) (catL epsL (setL (addB noneB 50 50)))
theorem ak1 : pParse [49, 124, 50] = some awkA := by rfl
theorem ak1_yes : awkA [49] := .inl (.inr ⟨[], [49], rfl, rfl, 49, rfl, by decide⟩)
def awkB : Lang := altL noL (catL epsL (setL (notB noneB)))
theorem ak2 : pParse [46] = some awkB := by rfl
theorem ak2_yes : awkB [49] := .inr ⟨[], [49], rfl, rfl, 49, rfl, by decide⟩
theorem ak3 : errE [40] = 9 := by rfl
def psA : List Pr := [(⟨#[97]⟩, ⟨#[49]⟩)]
theorem gv1 : getV psA (ByteArray.mk #[97]).toList = ⟨#[49]⟩ := by unfold getV psA nm; simp [ByteArray.toList_eq]
theorem gv2 : getV psA (ByteArray.mk #[98]).toList = ⟨#[]⟩ := by unfold getV psA nm; simp [ByteArray.toList_eq]
theorem nameA : NameOk ⟨#[97]⟩ := by decide
theorem nameB : NameOk ⟨#[98]⟩ := by decide
theorem mk1 : mAsk psA (⟨#[97]⟩, 2, ⟨#[49, 124, 50]⟩) := by
  refine ⟨?_, .inr (.inr (.inl ⟨rfl, awkA, ak1, ?_⟩))⟩
  · unfold mErr
    rw [if_neg (Classical.not_not.2 nameA)]
    exact errE_of (by decide) ak1
  · simp only [gv1]
    exact ak1_yes
theorem mk2 : mAsk psA (⟨#[98]⟩, 1, ⟨#[49]⟩) := by
  refine ⟨?_, .inr (.inl ⟨rfl, ?_⟩)⟩
  · unfold mErr
    rw [if_neg (Classical.not_not.2 nameB)]
    rfl
  · rw [gv2, ByteArray.toList_eq, ByteArray.toList_eq]
    decide
theorem mk3 : ¬ mAsk psA (⟨#[97]⟩, 3, ⟨#[46]⟩) := by
  rintro ⟨-, ⟨h, -⟩ | ⟨h, -⟩ | ⟨h, -⟩ | ⟨-, h⟩⟩
  · cases h
  · cases h
  · cases h
  · simp only [gv1] at h
    exact h ⟨awkB, ak2, ak2_yes⟩
theorem mk4 : mErr (⟨#[97]⟩, 2, ⟨#[40]⟩) = 9 := by
  unfold mErr
  rw [if_neg (Classical.not_not.2 nameA)]
  exact ak3

theorem mk5 : textM (⟨#[97]⟩, 3, ⟨#[120]⟩) = ⟨#[97, 33, 126, 120]⟩ := by rfl
theorem tells_yes {A : Prop} {e : Ending} (h : Tells A e) (hA : A) : e = .returned (.bool true) := by
  obtain ⟨b, h1, h2⟩ := h
  rw [h1, h2.2 hA]
theorem tells_no {A : Prop} {e : Ending} (h : Tells A e) (hA : ¬ A) : e = .returned (.bool false) := by
  obtain ⟨b, h1, h2⟩ := h
  rw [h1, Bool.eq_false_iff.2 fun k => hA (h2.1 k)]

set_option maxHeartbeats 2000000 in
theorem mawake_any (w : World) (htab : TabW w) : Calls Tryd.prog 9 #[] w fun e w' => e = .returned (.bool true) ∧ Below w.heap.size w w' := by
  have htl := htab.lt
  have hA := (Below.refl w.heap.size w).alloc (Nat.le_refl _) (.cells #[.string ⟨#[97]⟩, .string ⟨#[49]⟩] 60)
  have hP : PairsAt (w.alloc (.cells #[.string ⟨#[97]⟩, .string ⟨#[49]⟩] 60)) (some ⟨w.heap.size, 0, none⟩) psA := fun _ => ⟨w.heap.size, 0, rfl, fun i hi => by
    obtain rfl : i = 0 := by simpa [psA] using hi
    exact ⟨cell_heap (heap_new w _), cell_heap (heap_new w _)⟩⟩
  have HO := Lib.hid (fun (n v : ByteArray) (o : Nat) u (hb : Below w.heap.size w u) (hu : PairsAt u (some ⟨w.heap.size, 0, none⟩) psA) => mOne_any n o v (some ⟨w.heap.size, 0, none⟩) 1 psA u (htab.on hb htl) hu (by decide) (by decide) 1 rfl)
  have hs0 := hA.size
  have H1 := Lib.hid (HO.out ⟨#[97]⟩ ⟨#[49, 124, 50]⟩ 2 _ hA hP)
  go_enter Tryd.func9, Tryd.ntmps9
  go_wp2_with (go_at_call 16; refine H1.out.mono ?_; rintro e w1 ⟨ht, q1⟩; obtain rfl := tells_yes ht mk1; clear ht; refine Hid.out ?_)
  refine Lib.hid ?_
  have b1 := hA.trans (q1.mono hs0)
  have P1 := hP.below q1 (Nat.le_refl _)
  have H2 := Lib.hid (HO.out ⟨#[98]⟩ ⟨#[49]⟩ 1 _ b1 P1)
  clear H1 hP hA
  go_wp2_with (go_at_call 16; refine H2.out.mono ?_; rintro e w2 ⟨ht, q2⟩; obtain rfl := tells_yes ht mk2; clear ht; refine Hid.out ?_)
  refine Lib.hid ?_
  have b2 := b1.trans (q2.mono b1.size)
  have P2 := P1.below q2 (Nat.le_refl _)
  have H3 := Lib.hid (HO.out ⟨#[97]⟩ ⟨#[46]⟩ 3 _ b2 P2)
  clear H2 P1
  go_wp2_with (go_at_call 16; refine H3.out.mono ?_; rintro e w3 ⟨ht, q3⟩; obtain rfl := tells_no ht mk3; clear ht; refine Hid.out ?_)
  refine Lib.hid ?_
  have b3 := b2.trans (q3.mono b2.size)
  have H4 := Lib.hid (mText_any ⟨#[97]⟩ 3 ⟨#[120]⟩ w3 (by decide))
  rw [mk5] at H4
  clear H3 P2 HO
  go_wp2_with (go_at_call 12; refine H4.out.mono ?_; rintro e w4 ⟨rfl, q4⟩; refine Hid.out ?_)
  refine Lib.hid ?_
  have b4 := b3.trans (q4.mono b3.size)
  have H5 := Lib.hid (mCheck_any ⟨#[97]⟩ 2 ⟨#[40]⟩ w4 (htab.on b4 htl))
  rw [mk4] at H5
  clear H4
  go_wp2_with (go_at_call 15; refine H5.out.mono ?_; rintro e w5 ⟨rfl, q5⟩)
  go_ret
  exact ⟨rfl, b4.trans (q5.mono b4.size)⟩

end Go.Proofs.YtbkejafjlapmnaaDoor
