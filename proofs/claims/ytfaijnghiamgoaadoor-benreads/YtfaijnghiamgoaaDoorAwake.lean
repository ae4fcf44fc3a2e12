/-
  The closed case of every statement of layer 1: it answers true, whatever else lies in memory.
-/
import Derived.Test.YtfaijnghiamgoaaDoorPut2
import Derived.Lib.SlBytesConst
import Derived.Shelf.Bytes.SlSmallAll
namespace Go.Proofs.YtfaijnghiamgoaaDoor
open Go.RowKit

theorem put_awake : putList [putInt (-5), putText [97, 98]] = [108, 105, 45, 53, 101, 50, 58, 97, 98, 101] := by decide +kernel
theorem read_awake : rdInt [105, 48, 53, 101] = ([], 4, 0) := by decide +kernel

theorem own_string {w : World} {B : Nat} {v : Value} {l : List UInt8} (h : Own w B v l) : (convert 22 9 v).run Tryd.prog w = .ok (.string ⟨l.toArray⟩) w := by
  rcases h.src with ⟨rfl, rfl⟩ | ⟨q, c, rfl, hc⟩
  · exact run_convert_bytes_zero w 22 5 Tryd.underlying22 Tryd.underlying5 none 0 9 Tryd.underlying9
  · exact run_convert_bytes_back (P := Tryd.prog) w 22 9 5 q c l Tryd.underlying22 Tryd.underlying5 Tryd.underlying9 hc

set_option maxHeartbeats 1000000 in
set_option maxRecDepth 100000 in
theorem awake_any (B : Nat) (w : World) (hB : B ≤ w.heap.size) (hv : VarsOk B w) :
    Calls Tryd.prog 8 #[] w fun e w' => e = .returned (.bool true) ∧ Below w.heap.size w w' := by
  have kc := fun (w : World) (C : Array Value) (n c : Nat) => Lib.run_convert_bytes_const (P := Tryd.prog) w 22 5 C n c Tryd.underlying22 Tryd.underlying5
  go_enter Tryd.func8, Tryd.ntmps8
  have hsrc : SrcAt (w.alloc (.cells #[.int .u8 105, .int .u8 48, .int .u8 53, .int .u8 101] 5 (4, 5))) (.slice (some ⟨w.heap.size, 0, none⟩) 4 4) [105, 48, 53, 101] :=
    .inr ⟨⟨w.heap.size, 0, none⟩, 4, rfl, fun i hi => by
      rw [Go.WideShapes.add_plain, World.cell?_alloc_mark]
      match i, hi with
      | 0, _ => rfl
      | 1, _ => rfl
      | 2, _ => rfl
      | 3, _ => rfl⟩
  have HN := Lib.hid (New_any _ _ _ hsrc (by decide))
  clear hsrc
  go_wp2_with (go_at_call 4; refine HN.out.mono ?_; rintro e w1 ⟨rb, a, c, rfl, hrd1, hrb, hal, hb1⟩; refine Hid.out ?_)
  refine Lib.hid ?_
  have hn1 : Below w.heap.size w w1 := ((Below.refl w.heap.size w).alloc (Nat.le_refl _) _).trans (hb1.mono (by simp))
  have hv1 := hv.on (hn1.mono hB)
  have hs1 := hn1.size
  simp only [World.size_alloc] at hrb
  clear kc hb1
  have hB1 : B ≤ w1.heap.size := by omega
  go_wp2_with (go_at_call 20; refine (Int_val (-5) (by omega) (by omega) B _ hB1 hv1).mono ?_; rintro e w2 ⟨a2, k2, c2, rfl, ho2, hb2⟩; refine Hid.out ?_)
  refine Lib.hid ?_
  have hv2 := hv1.on (hb2.mono hB1)
  have hs2 := hb2.size
  go_wp2_with (go_at_call 21; refine (Text_val ⟨#[97, 98]⟩ (by decide) B _ (by omega) hv2).mono ?_; rintro e w3 ⟨a3, k3, c3, rfl, ho3, hb3⟩; refine Hid.out ?_)
  refine Lib.hid ?_
  have hv3 := hv2.on (hb3.mono (by omega))
  have hs3 := hb3.size
  have hsrc2 := ho2.src.below hb3 (Nat.le_refl _)
  have hsrc3 := ho3.src
  have hp : PartsAt (w3.alloc (.cells #[.slice a2 k2 c2, .slice a3 k3 c3] 22)) (some ⟨w3.heap.size, 0, none⟩) [putInt (-5), putText [97, 98]] := fun _ => ⟨_, 0, rfl, fun i hi => by
    have hbb : Below w3.heap.size w3 (w3.alloc (.cells #[.slice a2 k2 c2, .slice a3 k3 c3] 22)) := (Below.refl _ _).alloc (Nat.le_refl _) _
    match i, hi with
    | 0, _ => exact ⟨_, by simp, hsrc2.below hbb (Nat.le_refl _)⟩
    | 1, _ => exact ⟨_, by simp, hsrc3.below hbb (Nat.le_refl _)⟩⟩
  have HL := Lib.hid (List_val (some ⟨w3.heap.size, 0, none⟩) 2 _ _ hp (by decide) (by decide +kernel) 2 rfl)
  clear hp hsrc2 hsrc3
  go_wp2_with (go_at_call 19; refine HL.out.mono ?_; rintro e w4 ⟨a4, k4, c4, rfl, ho4, hb4⟩; refine Hid.out ?_)
  refine Lib.hid ?_
  rw [put_awake] at ho4
  have hcv := own_string ho4
  have hn4 : Below w3.heap.size w3 w4 := ((Below.refl w3.heap.size w3).alloc (Nat.le_refl _) _).trans (hb4.mono (by simp))
  have hs4 := hn4.size
  have hv4 := hv3.on (hn4.mono (by omega))
  have hrd4 := ((hrd1.below hb2).below hb3).below hn4
  go_wp2_with (go_at_call 11; refine (rInt_any rb a c _ B _ hrd4 (by omega) hv4).mono ?_; rintro e w5 ⟨rfl, ⟨a5, c5, hrd5⟩, hg5⟩; refine Hid.out ?_)
  refine Lib.hid ?_
  rw [read_awake] at hrd5
  rw [read_awake]
  go_wp2_with (go_at_call 6; refine (Err_any rb a5 c5 _ _ _ hrd5).mono ?_; rintro e w6 ⟨rfl, rfl⟩)
  go_ret
  have hn5 : Below w.heap.size w4 w6 := below_of_grownBy hg5 (by omega) (by omega)
  exact ⟨rfl, (((hn1.trans (hb2.mono (by omega))).trans (hb3.mono (by omega))).trans (hn4.mono (by omega))).trans hn5⟩

end Go.Proofs.YtfaijnghiamgoaaDoor
