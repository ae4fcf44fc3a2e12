/-
  What Check and One of package match do, at whatever matcher and labels. What One of package match does, at whatever matcher and labels.
-/
import Derived.Test.YtfllfmdopfeecabGreatDoorMPlain
namespace Go.Proofs.YtfllfmdopfeecabGreatDoor
open Go.RowKit

/-- A matcher as a value. -/
def encM (m : Mt) : List Value := [.string m.1, .int .u8 (m.2.1 : Int), .string m.2.2]

set_option maxHeartbeats 1000000 in
theorem mCheck_any (n : ByteArray) (o : Nat) (v : ByteArray) (w : World) (htab : TabW w) :
    Calls Tryz.prog 63 #[.agg #[.string n, .int .u8 (o : Int), .string v]] w fun e w' => e = .returned (.int .i64 (mErr (n, o, v))) ∧ Below w.heap.size w w' := by
  have HN := Lib.hid (fun u => Name_any n u)
  have htl := htab.lt
  unfold mErr
  by_cases h1 : NameOk n
  · rw [decide_eq_true h1] at HN
    rw [if_neg (Classical.not_not.2 h1)]
    clear h1
    by_cases h2 : 3 < o
    · rw [if_pos h2]
      have h2' : (3 : Int) < (o : Int) := by omega
      clear h2
      go_enter Tryz.func63, Tryz.ntmps63
      go_wp2_with (go_at_call 39; refine (HN.out _).mono ?_; rintro e w1 ⟨rfl, rfl⟩)
      go_ret
      exact ⟨rfl, (Below.refl _ _).alloc (Nat.le_refl _) _⟩
    · rw [if_neg h2]
      have h2' : ¬ (3 : Int) < (o : Int) := by omega
      by_cases h3 : 64 < v.size
      · rw [if_pos h3]
        have h3' : (64 : Int) < (v.size : Int) := by omega
        clear h2 h3
        go_enter Tryz.func63, Tryz.ntmps63
        go_wp2_with (go_at_call 39; refine (HN.out _).mono ?_; rintro e w1 ⟨rfl, rfl⟩)
        go_ret
        exact ⟨rfl, (Below.refl _ _).alloc (Nat.le_refl _) _⟩
      · rw [if_neg h3]
        have h3' : ¬ (64 : Int) < (v.size : Int) := by omega
        by_cases h4 : 2 ≤ o
        · rw [if_pos h4]
          have hT := Lib.hid (fun (o : Obj) => htab.on ((Below.refl w.heap.size w).alloc (Nat.le_refl _) o) htl)
          by_cases h5 : errE v.data.toList = 0
          · rw [h5]
            obtain ⟨h6, A, hA⟩ := errE_zero h5
            have HC := Lib.hid (fun u (hu : TabW u) => comp_good v u (by omega) hu A hA)
            clear h5 hA
            rcases (by omega : o = 2 ∨ o = 3) with rfl | rfl
            all_goals
              clear h4 h3 h2
              go_enter Tryz.func63, Tryz.ntmps63
              go_wp2_with (first | (go_at_call 39; refine (HN.out _).mono ?_; rintro e w1 ⟨rfl, rfl⟩) | (go_at_call 85; refine (HC.out _ (hT.out _)).mono ?_; rintro e w1 ⟨xb, rfl, hp, hb1⟩))
              go_ret
              exact ⟨rfl, ((Below.refl _ _).alloc (Nat.le_refl _) _).trans (hb1.mono (by simp))⟩
          · have HC := Lib.hid (fun u (hu : TabW u) => comp_err v u hu h5)
            generalize errE v.data.toList = E at *
            clear h5
            rcases (by omega : o = 2 ∨ o = 3) with rfl | rfl
            all_goals
              clear h4 h3 h2
              go_enter Tryz.func63, Tryz.ntmps63
              go_wp2_with (first | (go_at_call 39; refine (HN.out _).mono ?_; rintro e w1 ⟨rfl, rfl⟩) | (go_at_call 85; refine (HC.out _ (hT.out _)).mono ?_; rintro e w1 ⟨rfl, hb1⟩))
              go_ret
              exact ⟨rfl, ((Below.refl _ _).alloc (Nat.le_refl _) _).trans (hb1.mono (by simp))⟩
        · rw [if_neg h4]
          rcases (by omega : o = 0 ∨ o = 1) with rfl | rfl
          all_goals
            clear h4 h3 h2
            go_enter Tryz.func63, Tryz.ntmps63
            go_wp2_with (go_at_call 39; refine (HN.out _).mono ?_; rintro e w1 ⟨rfl, rfl⟩)
            go_ret
            exact ⟨rfl, (Below.refl _ _).alloc (Nat.le_refl _) _⟩
  · rw [decide_eq_false h1] at HN
    rw [if_pos h1]
    clear h1
    go_enter Tryz.func63, Tryz.ntmps63
    go_wp2_with (go_at_call 39; refine (HN.out _).mono ?_; rintro e w1 ⟨rfl, rfl⟩)
    go_ret
    exact ⟨rfl, (Below.refl _ _).alloc (Nat.le_refl _) _⟩


theorem mAsk_no {ps : List Pr} {m : Mt} (h : mErr m ≠ 0) : ¬ mAsk ps m := fun k => h k.1
theorem tells_of {A : Prop} {b : Bool} (h : b = true ↔ A) : Tells A (.returned (.bool b)) := ⟨b, rfl, h⟩

/-- A matcher in a block. -/
def MtBlk (w : World) (b : Nat) (m : Mt) : Prop := w.heap[b]? = some (.cells #[.string m.1, .int .u8 (m.2.1 : Int), .string m.2.2] 61 (0, 0))
theorem MtBlk.lt {w : World} {b : Nat} {m : Mt} (h : MtBlk w b m) : b < w.heap.size := (Array.getElem?_eq_some_iff.1 h).1
theorem MtBlk.below {w w' : World} {b : Nat} {m : Mt} (h : MtBlk w b m) (hb : Below w.heap.size w w') : MtBlk w' b m := (hb.block b h.lt).trans h
theorem MtBlk.cell0 {w : World} {b : Nat} {m : Mt} (h : MtBlk w b m) : w.cell? ⟨b, 0, none⟩ = some (.string m.1) := by unfold MtBlk at h; simp [World.cell?, h]
theorem MtBlk.cell1 {w : World} {b : Nat} {m : Mt} (h : MtBlk w b m) : w.cell? ⟨b, 1, none⟩ = some (.int .u8 (m.2.1 : Int)) := by unfold MtBlk at h; simp [World.cell?, h]
theorem MtBlk.cell2 {w : World} {b : Nat} {m : Mt} (h : MtBlk w b m) : w.cell? ⟨b, 2, none⟩ = some (.string m.2.2) := by unfold MtBlk at h; simp [World.cell?, h]

set_option maxRecDepth 20000 in
set_option maxHeartbeats 2000000 in
theorem mOne_any (n : ByteArray) (o : Nat) (v : ByteArray) (a : Option Addr) (c : Nat) (ps : List Pr) (w : World) (htab : TabW w) (h : PairsAt w a ps) (hn : ps.length ≤ 9223372036854775807) (hv : ∀ p ∈ ps, p.2.size ≤ 9223372036854775807) (k : Nat) (hk : k = ps.length) :
    Calls Tryz.prog 54 #[.agg #[.string n, .int .u8 (o : Int), .string v], .slice a k c] w fun e w' => Tells (mAsk ps (n, o, v)) e ∧ Below w.heap.size w w' := by
  subst hk
  have HC := Lib.hid (fun u (hu : TabW u) => mCheck_any n o v u hu)
  have htl := htab.lt
  have hbA := Lib.hid (fun (o : Obj) => (Below.refl w.heap.size w).alloc (Nat.le_refl _) o)
  have hT := Lib.hid (fun (o : Obj) => htab.on (hbA.out o) htl)
  by_cases he : mErr (n, o, v) = 0
  · rw [he] at HC
    obtain ⟨-, ho, h64, hE⟩ := mErr_zero he
    simp only at ho h64 hE
    have hA : mAsk ps (n, o, v) ↔ mHas (n, o, v) (getV ps n.toList) := by unfold mAsk; simp [he]
    have hvg : (getV ps n.toList).size ≤ 9223372036854775807 := by
      unfold getV
      split
      · rename_i p hp
        exact hv p (List.mem_of_find?_eq_some hp)
      · decide
    have HG := Lib.hid (fun u (hu : PairsAt u a ps) => Get_any a c ps n u hu hn _ rfl)
    generalize getV ps n.toList = V at *
    simp only [hA]
    clear hA hv
    go_enter Tryz.func54, Tryz.ntmps54
    go_wp2_with (go_at_call 63; refine (HC.out _ (hT.out _)).mono ?_; rintro e w1 ⟨rfl, hb1⟩; refine Hid.out ?_)
    refine Lib.hid ?_
    have hb1' := (hbA.out _).trans (hb1.mono (by simp))
    have HG1 := Lib.hid (HG.out w1 (h.below hb1' (Nat.le_refl _)))
    have hm0 : MtBlk w1 w.heap.size (n, o, v) := (hb1.block w.heap.size (by simp)).trans (heap_new w _)
    have c0 : w1.cell? ⟨w.heap.size, 0, none⟩ = some (.string n) := hm0.cell0
    go_wp2_with (go_at_call 79; refine HG1.out.mono ?_; rintro e w2 ⟨rfl, hb2⟩; refine Hid.out ?_)
    refine Lib.hid ?_
    have hb2' := hb1'.trans (hb2.mono hb1'.size)
    have hm2 : MtBlk w2 w.heap.size (n, o, v) := (hb2.block w.heap.size hm0.lt).trans hm0
    have c1 : w2.cell? ⟨w.heap.size, 1, none⟩ = some (.int .u8 (o : Int)) := hm2.cell1
    have c2 : w2.cell? ⟨w.heap.size, 2, none⟩ = some (.string v) := hm2.cell2
    clear c0 HG HG1 HC hb1 hm0 hb2 hbA
    rcases (by omega : o = 0 ∨ o = 1 ∨ o = 2 ∨ o = 3) with rfl | rfl | rfl | rfl
    · have HF : Hid ((V.toList == v.toList) = true ↔ mHas (n, 0, v) V) := Lib.hid (by unfold mHas; simp)
      go_wp2_with fail
      go_ret
      exact ⟨tells_of HF.out, hb2'⟩
    · have HF : Hid ((V.toList != v.toList) = true ↔ mHas (n, 1, v) V) := Lib.hid (by unfold mHas; simp)
      go_wp2_with fail
      go_ret
      exact ⟨tells_of HF.out, hb2'⟩
    all_goals
      obtain ⟨h6, A, hA⟩ := errE_zero (hE (by decide))
      have HL := Lib.hid (like_good v V w2 h64 (htab.on hb2' htl) A hA hvg)
      have HP := Lib.hid (likeP_of hA V.data.toList)
      clear hA hE h6 hT htab
    · go_wp2_with (go_at_call 80; refine HL.out.mono ?_; rintro e w3 ⟨⟨b, rfl, hb⟩, hb3⟩; have HB := Lib.hid hb; clear hb; refine Hid.out ?_)
      refine Lib.hid ?_
      have c1' : w3.cell? ⟨w.heap.size, 1, none⟩ = some (.int .u8 2) := (hb3.cell (p := ⟨w.heap.size, 1, none⟩) hm2.lt).trans c1
      clear c1 c2 HL
      go_wp2_with fail
      go_ret
      refine ⟨tells_of ?_, hb2'.trans (hb3.mono hb2'.size)⟩
      unfold mHas
      simp [HP.out, HB.out]
    · go_wp2_with (go_at_call 80; refine HL.out.mono ?_; rintro e w3 ⟨⟨b, rfl, hb⟩, hb3⟩; have HB := Lib.hid hb; clear hb; refine Hid.out ?_)
      refine Lib.hid ?_
      have c1' : w3.cell? ⟨w.heap.size, 1, none⟩ = some (.int .u8 3) := (hb3.cell (p := ⟨w.heap.size, 1, none⟩) hm2.lt).trans c1
      clear c1 c2 HL
      go_wp2_with fail
      go_ret
      refine ⟨tells_of ?_, hb2'.trans (hb3.mono hb2'.size)⟩
      unfold mHas
      simp [HP.out, ← HB.out]
  · have HN := Lib.hid (mAsk_no (ps := ps) he)
    have hb : ((mErr (n, o, v) : Int) != 0) = true := by simpa using he
    generalize mErr (n, o, v) = Er at *
    clear he
    go_enter Tryz.func54, Tryz.ntmps54
    go_wp2_with (go_at_call 63; refine (HC.out _ (hT.out _)).mono ?_; rintro e w1 ⟨rfl, hb1⟩)
    go_ret
    exact ⟨⟨false, rfl, by simpa using HN.out⟩, (hbA.out _).trans (hb1.mono (by simp))⟩

end Go.Proofs.YtfllfmdopfeecabGreatDoor
