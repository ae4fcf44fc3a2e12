/-
  The walk of LabelSorts.
-/
import Derived.Test.YtpjmfembpckohaaDoorLSort
import Derived.Test.YtpjmfembpckohaaDoorLPick2
import Derived.Test.YtpjmfembpckohaaDoorLAwake
namespace Go.Proofs.YtpjmfembpckohaaDoor
open Go.RowKit

theorem sortE_le (ps : List Pr) : 0 ≤ sortE ps ∧ sortE ps ≤ 7 := by
  have := partsE_le ps
  unfold sortE
  split
  · omega
  · split <;> omega

/-- A row whose cells may be written to. -/
def WritP (w : World) (B : Nat) (a : Option Addr) (n : Nat) : Prop := 0 < n → ∃ g, a = some ⟨g, 0, none⟩ ∧ B ≤ g ∧ ∀ j, j < n * 2 → (∃ u, w.cell? ⟨g, j, none⟩ = some u) ∧ w.frozen? ⟨g, j, none⟩ = false
theorem HeldP.writ {w : World} {B : Nat} {a : Option Addr} {qs : List Pr} (h : HeldP w B a qs) : WritP w B a qs.length := fun hn => by
  obtain ⟨g, rfl, h1, h2, hH⟩ := h hn
  refine ⟨g, rfl, h1, fun j hj => ?_⟩
  obtain ⟨e1, e2⟩ := hH j (by simpa [Sort.size_flatK] using hj)
  rw [Nat.zero_add] at e1 e2
  exact ⟨⟨_, e1⟩, e2⟩
theorem WritP.below {w w' : World} {B B' : Nat} {a : Option Addr} {n : Nat} (h : WritP w B a n) (hb : Below B' w w') (hB : w.heap.size ≤ B') : WritP w' B a n := fun hn => by
  obtain ⟨g, rfl, h1, hc⟩ := h hn
  refine ⟨g, rfl, h1, fun j hj => ?_⟩
  obtain ⟨⟨u, e1⟩, e2⟩ := hc j hj
  have hlt : g < B' := Nat.lt_of_lt_of_le (World.block_lt_of_cell? w ⟨g, j, none⟩ e1) hB
  exact ⟨⟨u, by rw [hb.cell (p := ⟨g, j, none⟩) hlt]; exact e1⟩, by rw [hb.frozen (p := ⟨g, j, none⟩) hlt]; exact e2⟩
theorem WritP.set {w : World} {B : Nat} {g n : Nat} (h : WritP w B (some ⟨g, 0, none⟩) n) (i : Nat) (x : Value) : WritP (w.setCell ⟨g, i, none⟩ x) B (some ⟨g, 0, none⟩) n := fun hn => by
  obtain ⟨g', he, h1, hc⟩ := h hn
  refine ⟨g', he, h1, fun j hj => ?_⟩
  obtain ⟨⟨u, e1⟩, e2⟩ := hc j hj
  exact ⟨cell?_setCell_some e1, by simpa using e2⟩

set_option maxHeartbeats 4000000 in
set_option maxRecDepth 100000 in
theorem sorts_walk (a : Option Addr) (c : Nat) (ps : List Pr) (w : World) (h : PairsAt w a ps) (hc0 : a = none → c = 0) (hl : ps.length ≤ 4398046511102) (hp : ∀ p ∈ ps, p.1.size ≤ 9223372036854775807) (hv : TabOk w.heap.size w) :
    Calls Tryd.prog 4 #[.slice a ps.length c] w fun e w' => e = .returned (.bool true) ∧ Below w.heap.size w w' := by
  have HSL := Lib.hid (fun w1 (hb : Below w.heap.size w w1) => h.below hb (Nat.le_refl _))
  have HC0 := Lib.hid hc0
  have HRS := Lib.hid (fun w1 (hb : Below w.heap.size w w1) => refSort_any a c ps w1 (h.below hb (Nat.le_refl _)) hp)
  have hb0 : Below w.heap.size w (w.alloc (.cells #[] 35)) := (Below.refl _ _).alloc (Nat.le_refl _) _
  clear h hc0 hp
  go_enter Tryd.func4, Tryd.ntmps4
  go_wp2_with (at_builtin; refine wpList_append_pairs _ rfl _ _ rfl w.heap.size _ [] rfl (ownP_made w w.heap.size (Nat.le_refl _)) a ps.length c ps rfl rfl (HSL.out _ hb0) HC0.out (by simp; omega) (by simp) ?_; refine Hid.out ?_)
  refine Lib.hid ?_
  intro v1 w1 ho1 hg1
  have ho1' : OwnP w1 w.heap.size v1 ps := ho1
  obtain ⟨a1, c1, rfl, hat1, -, -⟩ := ho1'.form
  have hb1 : Below w.heap.size w w1 := hb0.grown hg1 (by simp) (fun j hj => by simp [Value.ownBlock] at hj; omega)
  have hs1 := hb1.size
  have HAT := Lib.hid (fun w2 (hb : Below w1.heap.size w1 w2) => hat1.below hb (Nat.le_refl _))
  have HS := Lib.hid (Sort_any a1 c1 ps w1 hat1 ps.length rfl)
  clear ho1 ho1' hg1 hat1 hb0
  go_wp2_with (go_at_call 13; refine HS.out.mono ?_; rintro e w2 ⟨a2, k2, c2, qs, rfl, hk, hheld, hb2, hne, hz⟩; have hkk := Lib.hid hk; have hnn := Lib.hid hne; have hzz := Lib.hid hz; clear hk hne hz; refine Hid.out ?_)
  refine Lib.hid ?_
  have hs2 := hb2.size
  have hn2 := hb1.trans (hb2.mono hs1)
  go_wp2_with (go_at_call 14; refine (HRS.out w2 hn2).mono ?_; rintro e w3 ⟨⟨a3, c3, qs3, rfl, hat3, hne3, hz3⟩, hb3⟩; have hnn3 := Lib.hid hne3; have hzz3 := Lib.hid hz3; clear hne3 hz3; refine Hid.out ?_)
  refine Lib.hid ?_
  have hs3 := hb3.size
  have hn3 := hn2.trans (hb3.mono (by omega))
  obtain rfl : qs3 = qs := by
    by_cases hE : sortE ps = 0
    · obtain ⟨p1, r1⟩ := hzz.out hE
      obtain ⟨p3, r3⟩ := hzz3.out hE
      exact rise_eq (p3.trans p1.symm) r3 r1
    · rw [hnn.out hE, hnn3.out hE]
  have hql : qs3.length ≤ 9223372036854775807 := by
    by_cases hE : sortE ps = 0
    · rw [(hzz.out hE).1.length_eq]; omega
    · rw [hnn.out hE]; simp
  have hk2 : k2 ≤ 9223372036854775807 := by rw [hkk.out]; exact hql
  have hat2 := hheld.at.below hb3 (Nat.le_refl _)
  have HWR := Lib.hid (hheld.writ.below hb3 (Nat.le_refl _))
  rw [← hkk.out] at HWR
  have HSA := Lib.hid (fun w4 (hb : Below w3.heap.size w3 w4) => Same_any a2 a3 c2 c3 qs3 qs3 w4 (hat2.below hb (Nat.le_refl _)) (hat3.below hb (Nat.le_refl _)) hql k2 qs3.length hkk.out rfl)
  have HSR := Lib.hid (fun w4 (hb : Below w3.heap.size w3 w4) => refSame_any a2 a3 c2 c3 qs3 qs3 w4 (hat2.below hb (Nat.le_refl _)) (hat3.below hb (Nat.le_refl _)) hql k2 qs3.length hkk.out rfl)
  simp only [decide_true] at HSA HSR
  have hse : (sortE ps == sortE ps) = true := by simp
  clear hheld hat2 hat3 hnn hzz hnn3 hzz3 HRS HS
  generalize sortE ps = E at *
  go_wp2_with (go_at_call 15; refine (HSA.out w3 (Below.refl _ _)).mono ?_; rintro e w4 ⟨rfl, hb4⟩; refine Hid.out ?_)
  refine Lib.hid ?_
  have hs4 := hb4.size
  go_wp2_with (go_at_call 16; refine (HSR.out w4 hb4).mono ?_; rintro e w5 ⟨rfl, hb5⟩; refine Hid.out ?_)
  refine Lib.hid ?_
  have hs5 := hb5.size
  have hb35 := hb4.trans (hb5.mono hs4)
  go_wp2_with (go_at_call 16; refine (HSR.out w5 hb35).mono ?_; rintro e w6 ⟨rfl, hb6⟩; refine Hid.out ?_)
  refine Lib.hid ?_
  have hs6 := hb6.size
  have hb36 := hb35.trans (hb6.mono (by omega))
  have HW6 := Lib.hid (HWR.out.below hb36 (Nat.le_refl _))
  have hb16 : Below w1.heap.size w1 w6 := (hb2.trans (hb3.mono hs2)).trans (hb36.mono (by omega))
  clear HSA HSR hql
  go_wp2
  go_loopw [9] (fun i wr => ∃ k : Nat, k ≤ k2 ∧ i = .int .i64 k ∧ WritP wr w1.heap.size a2 k2 ∧ Below w1.heap.size w1 wr) (fun i _ => k2 - (intOf i).toNat)
  case atStart => exact ⟨0, Nat.zero_le _, rfl, HW6.out, hb16⟩
  case round =>
    obtain ⟨k, hk, rfl, hwr, hbr⟩ := hrel
    have hsr := hbr.size
    by_cases hlt : k < k2
    · have hkl : (k : Int) < (k2 : Int) := by omega
      obtain ⟨g, rfl, hgB, hcs⟩ := id hwr (by omega)
      obtain ⟨⟨u, hc1⟩, hf1⟩ := hcs (k * 2) (by omega)
      have hwr2 := hwr.set (k * 2) (.string ⟨#[63]⟩)
      have hbr2 : Below w1.heap.size w1 (wr.setCell ⟨g, k * 2, none⟩ (.string ⟨#[63]⟩)) := hbr.setCell hgB _
      clear hcs
      go_wp2
      go_roundw
      case rel => exact ⟨k + 1, by omega, by go_num, hwr2, hbr2⟩
      case measure => simp [intOf]; omega
    · obtain rfl : k = k2 := by omega
      have hn8 : Below w.heap.size w wr := hb1.trans (hbr.mono hs1)
      have hs8 := hn8.size
      have HS8 := Lib.hid (refSame_any a1 a c1 c ps ps wr (HAT.out _ hbr) (HSL.out _ hn8) (by omega) _ _ rfl rfl)
      simp only [decide_true] at HS8
      clear hwr
      go_wp2_with (go_at_call 16; refine HS8.out.mono ?_; rintro e w9 ⟨rfl, hb9⟩; refine Hid.out ?_)
      refine Lib.hid ?_
      have hn9 := hn8.trans (hb9.mono hs8)
      have hs9 := hn9.size
      go_wp2_with (go_at_call 12; refine (awake_any w.heap.size _ hs9 (hv.on hn9)).mono ?_; rintro e wA ⟨rfl, hbA⟩; refine Hid.out ?_)
      refine Lib.hid ?_
      go_wp2
      go_ret
      exact ⟨rfl, hn9.trans (hbA.mono hs9)⟩

end Go.Proofs.YtpjmfembpckohaaDoor
