/-
  What Text of package match tells; whether labels are light; the closed case of every statement of layer 4. The closed case of every statement of layer 4: it answers true, whatever else lies in memory.
-/
import Derived.Test.YtbkejafjlapmnaaDoorM2
namespace Go.Proofs.YtbkejafjlapmnaaDoor
open Go.RowKit

/-- What stands between a matcher's name and its value. -/
def signL (o : Nat) : ByteArray := if o = 0 then ⟨#[61]⟩ else if o = 1 then ⟨#[33, 61]⟩ else if o = 2 then ⟨#[61, 126]⟩ else if o = 3 then ⟨#[33, 126]⟩ else ⟨#[]⟩
def textM (m : Mt) : ByteArray := m.1 ++ signL m.2.1 ++ m.2.2

set_option maxHeartbeats 1000000 in
theorem msign_any (o : Nat) (w : World) : Calls Tryd.prog 33 #[.int .u8 (o : Int)] w fun e w' => e = .returned (.string (signL o)) ∧ w' = w := by
  by_cases h : o < 4
  · rcases (by omega : o = 0 ∨ o = 1 ∨ o = 2 ∨ o = 3) with rfl | rfl | rfl | rfl
    all_goals
      clear h
      go_enter Tryd.func33, Tryd.ntmps33
      go_wp2
      go_ret
      exact ⟨rfl, rfl⟩
  · have HS : Hid (signL o = ⟨#[]⟩) := Lib.hid (by unfold signL; rw [if_neg (by omega), if_neg (by omega), if_neg (by omega), if_neg (by omega)])
    have h0 : ((o : Int) == 0) = false := by rw [beq_eq_false_iff_ne]; omega
    have h1 : ((o : Int) == 1) = false := by rw [beq_eq_false_iff_ne]; omega
    have h2 : ((o : Int) == 2) = false := by rw [beq_eq_false_iff_ne]; omega
    have h3 : ((o : Int) == 3) = false := by rw [beq_eq_false_iff_ne]; omega
    go_enter Tryd.func33, Tryd.ntmps33
    go_wp2
    go_ret
    exact ⟨by rw [HS.out]; rfl, rfl⟩

set_option maxHeartbeats 1000000 in
theorem mText_any (n : ByteArray) (o : Nat) (v : ByteArray) (w : World) (hsz : n.size + v.size + 2 ≤ 9223372036854775807) :
    Calls Tryd.prog 12 #[.agg #[.string n, .int .u8 (o : Int), .string v]] w fun e w' => e = .returned (.string (textM (n, o, v))) ∧ Below w.heap.size w w' := by
  have HS := Lib.hid (fun u => msign_any o u)
  have hl : (signL o).size ≤ 2 := by unfold signL; split <;> (try split) <;> (try split) <;> (try split) <;> decide
  unfold textM
  simp only
  generalize signL o = g at *
  go_enter Tryd.func12, Tryd.ntmps12
  go_wp2_with fail
  go_quiet ((go_at_call 33; exact Calls.quiet_of_same (HS.out _)))
  go_wp2
  go_ret
  exact ⟨rfl, below_drewN ((Below.refl _ _).alloc (Nat.le_refl _) _) _⟩

/-- Labels are few and their values short. -/
abbrev LightP (m : Nat) (ps : List Pr) : Prop := m ≤ 40 ∧ ps.length ≤ 40 ∧ ∀ p ∈ ps, p.2.size ≤ 200

set_option maxHeartbeats 1000000 in
theorem nLight_any (b a : Option Addr) (m d c : Nat) (ps : List Pr) (w : World) (h : PairsAt w a ps) (hm : m ≤ 9223372036854775807) (hn : ps.length ≤ 9223372036854775807) :
    Calls Tryd.prog 14 #[.slice b m d, .slice a ps.length c] w fun e w' => e = .returned (.bool (decide (LightP m ps))) ∧ Below w.heap.size w w' := by
  by_cases h1 : m ≤ 40
  · have h1' : ¬ (40 : Int) < (m : Int) := by omega
    by_cases h2 : ps.length ≤ 40
    · have h2' : ¬ (40 : Int) < (ps.length : Int) := by omega
      go_enter Tryd.func14, Tryd.ntmps14
      go_wp2
      go_loopw [5] (fun i wr => ∃ k : Nat, k ≤ ps.length ∧ i = .int .i64 k ∧ Below w.heap.size w wr ∧ ∀ j, j < k → ∀ hj : j < ps.length, ps[j].2.size ≤ 200) (fun i _ => ps.length - (intOf i).toNat)
      case atStart => exact ⟨0, Nat.zero_le _, rfl, Below.refl _ _, fun j hj => absurd hj (Nat.not_lt_zero _)⟩
      case round =>
        obtain ⟨k, hk, rfl, hb, hall⟩ := hrel
        by_cases hlt : k < ps.length
        · have hkl : (k : Int) < (ps.length : Int) := by omega
          obtain ⟨b, o, rfl, hc⟩ := h (by omega)
          obtain ⟨hc1, hc2⟩ := hc k hlt
          rw [← hb.cell (p := ⟨b, o + k * 2 + 1, none⟩) (World.block_lt_of_cell? w _ hc2)] at hc2
          clear hc h hc1
          by_cases h3 : ps[k].2.size ≤ 200
          · have h3' : ¬ (200 : Int) < (ps[k].2.size : Int) := by omega
            have HA := Lib.hid (upto_succ hall fun _ => h3)
            clear hall h3
            go_wp2
            go_roundw
            case rel => exact ⟨k + 1, by omega, by go_num, hb, HA.out⟩
            case measure => simp [intOf]; omega
          · have h3' : (200 : Int) < (ps[k].2.size : Int) := by omega
            have HF : Hid (decide (LightP m ps) = false) := Lib.hid (decide_eq_false fun hL => h3 (hL.2.2 _ (List.getElem_mem hlt)))
            clear hall h3
            go_wp2
            go_ret
            exact ⟨by first | (rw [HF.out]; rfl) | rfl, hb⟩
        · obtain rfl : k = ps.length := by omega
          have HF : Hid (decide (LightP m ps) = true) := Lib.hid (decide_eq_true ⟨h1, h2, fun p hp => by
            obtain ⟨i, hi, rfl⟩ := List.getElem_of_mem hp
            exact hall i hi hi⟩)
          clear hall
          go_wp2
          go_ret
          exact ⟨by first | (rw [HF.out]; rfl) | rfl, hb⟩
    · have h2' : (40 : Int) < (ps.length : Int) := by omega
      have HF : Hid (decide (LightP m ps) = false) := Lib.hid (decide_eq_false fun hL => h2 hL.2.1)
      go_enter Tryd.func14, Tryd.ntmps14
      go_wp2
      go_ret
      exact ⟨by first | (rw [HF.out]; rfl) | rfl, Below.refl _ _⟩
  · have h1' : (40 : Int) < (m : Int) := by omega
    have HF : Hid (decide (LightP m ps) = false) := Lib.hid (decide_eq_false fun hL => h1 hL.1)
    go_enter Tryd.func14, Tryd.ntmps14
    go_wp2
    go_ret
    exact ⟨by first | (rw [HF.out]; rfl) | rfl, Below.refl _ _⟩


def awkA : Lang := altL (altL noL (catL epsL (setL (addB noneB 49 49)))) (catL epsL (setL (addB noneB 50 50)))
theorem ak1 : pParse [49, 124, 50] = some awkA := by rfl
theorem ak1_yes : awkA [49] := .inl (.inr ⟨[], [49], rfl, rfl, 49, rfl, by decide⟩)
def awkB : Lang := altL noL (catL epsL (setL (notB noneB)))
theorem ak2 : pParse [46] = some awkB := by rfl
theorem ak2_yes : awkB [49] := .inr ⟨[], [49], rfl, rfl, 49, rfl, by decide⟩
theorem ak3 : errE [40] = 9 := by rfl
def psA : List Pr := [(⟨#[97]⟩, ⟨#[49]⟩)]
theorem gv1 : getV psA (ByteArray.mk #[97]).toList = ⟨#[49]⟩ := by unfold getV psA nm; simp [ByteArray.toList_eq]
theorem gv2 : getV psA (ByteArray.mk #[98]).toList = ⟨#[]⟩ := by unfold getV psA nm; simp [ByteArray.toList_eq]
theorem nameA : NameOk ⟨#[97]⟩ := by decide
theorem nameB : NameOk ⟨#[98]⟩ := by decide
theorem mk1 : mAsk psA (⟨#[97]⟩, 2, ⟨#[49, 124, 50]⟩) := by
  refine ⟨?_, .inr (.inr (.inl ⟨rfl, awkA, ak1, ?_⟩))⟩
  · unfold mErr
    rw [if_neg (Classical.not_not.2 nameA)]
    exact errE_of (by decide) ak1
  · simp only [gv1]
    exact ak1_yes
theorem mk2 : mAsk psA (⟨#[98]⟩, 1, ⟨#[49]⟩) := by
  refine ⟨?_, .inr (.inl ⟨rfl, ?_⟩)⟩
  · unfold mErr
    rw [if_neg (Classical.not_not.2 nameB)]
    rfl
  · rw [gv2, ByteArray.toList_eq, ByteArray.toList_eq]
    decide
theorem mk3 : ¬ mAsk psA (⟨#[97]⟩, 3, ⟨#[46]⟩) := by
  rintro ⟨-, ⟨h, -⟩ | ⟨h, -⟩ | ⟨h, -⟩ | ⟨-, h⟩⟩
  · cases h
  · cases h
  · cases h
  · simp only [gv1] at h
    exact h ⟨awkB, ak2, ak2_yes⟩
theorem mk4 : mErr (⟨#[97]⟩, 2, ⟨#[40]⟩) = 9 := by
  unfold mErr
  rw [if_neg (Classical.not_not.2 nameA)]
  exact ak3

theorem mk5 : textM (⟨#[97]⟩, 3, ⟨#[120]⟩) = ⟨#[97, 33, 126, 120]⟩ := by rfl
theorem tells_yes {A : Prop} {e : Ending} (h : Tells A e) (hA : A) : e = .returned (.bool true) := by
  obtain ⟨b, h1, h2⟩ := h
  rw [h1, h2.2 hA]
theorem tells_no {A : Prop} {e : Ending} (h : Tells A e) (hA : ¬ A) : e = .returned (.bool false) := by
  obtain ⟨b, h1, h2⟩ := h
  rw [h1, Bool.eq_false_iff.2 fun k => hA (h2.1 k)]

set_option maxHeartbeats 2000000 in
theorem mawake_any (w : World) (htab : TabW w) : Calls Tryd.prog 9 #[] w fun e w' => e = .returned (.bool true) ∧ Below w.heap.size w w' := by
  have htl := htab.lt
  have hA := (Below.refl w.heap.size w).alloc (Nat.le_refl _) (.cells #[.string ⟨#[97]⟩, .string ⟨#[49]⟩] 60)
  have hP : PairsAt (w.alloc (.cells #[.string ⟨#[97]⟩, .string ⟨#[49]⟩] 60)) (some ⟨w.heap.size, 0, none⟩) psA := fun _ => ⟨w.heap.size, 0, rfl, fun i hi => by
    obtain rfl : i = 0 := by simpa [psA] using hi
    exact ⟨cell_heap (heap_new w _), cell_heap (heap_new w _)⟩⟩
  have HO := Lib.hid (fun (n v : ByteArray) (o : Nat) u (hb : Below w.heap.size w u) (hu : PairsAt u (some ⟨w.heap.size, 0, none⟩) psA) => mOne_any n o v (some ⟨w.heap.size, 0, none⟩) 1 psA u (htab.on hb htl) hu (by decide) (by decide) 1 rfl)
  have hs0 := hA.size
  have H1 := Lib.hid (HO.out ⟨#[97]⟩ ⟨#[49, 124, 50]⟩ 2 _ hA hP)
  go_enter Tryd.func9, Tryd.ntmps9
  go_wp2_with (go_at_call 16; refine H1.out.mono ?_; rintro e w1 ⟨ht, q1⟩; obtain rfl := tells_yes ht mk1; clear ht; refine Hid.out ?_)
  refine Lib.hid ?_
  have b1 := hA.trans (q1.mono hs0)
  have P1 := hP.below q1 (Nat.le_refl _)
  have H2 := Lib.hid (HO.out ⟨#[98]⟩ ⟨#[49]⟩ 1 _ b1 P1)
  clear H1 hP hA
  go_wp2_with (go_at_call 16; refine H2.out.mono ?_; rintro e w2 ⟨ht, q2⟩; obtain rfl := tells_yes ht mk2; clear ht; refine Hid.out ?_)
  refine Lib.hid ?_
  have b2 := b1.trans (q2.mono b1.size)
  have P2 := P1.below q2 (Nat.le_refl _)
  have H3 := Lib.hid (HO.out ⟨#[97]⟩ ⟨#[46]⟩ 3 _ b2 P2)
  clear H2 P1
  go_wp2_with (go_at_call 16; refine H3.out.mono ?_; rintro e w3 ⟨ht, q3⟩; obtain rfl := tells_no ht mk3; clear ht; refine Hid.out ?_)
  refine Lib.hid ?_
  have b3 := b2.trans (q3.mono b2.size)
  have H4 := Lib.hid (mText_any ⟨#[97]⟩ 3 ⟨#[120]⟩ w3 (by decide))
  rw [mk5] at H4
  clear H3 P2 HO
  go_wp2_with (go_at_call 12; refine H4.out.mono ?_; rintro e w4 ⟨rfl, q4⟩; refine Hid.out ?_)
  refine Lib.hid ?_
  have b4 := b3.trans (q4.mono b3.size)
  have H5 := Lib.hid (mCheck_any ⟨#[97]⟩ 2 ⟨#[40]⟩ w4 (htab.on b4 htl))
  rw [mk4] at H5
  clear H4
  go_wp2_with (go_at_call 15; refine H5.out.mono ?_; rintro e w5 ⟨rfl, q5⟩)
  go_ret
  exact ⟨rfl, b4.trans (q5.mono b4.size)⟩

end Go.Proofs.YtbkejafjlapmnaaDoor
