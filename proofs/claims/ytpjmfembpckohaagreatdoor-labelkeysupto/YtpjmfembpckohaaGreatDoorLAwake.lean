/-
  The closed case of every statement of layer 2: it answers true, whatever else lies in memory.
-/
import Derived.Test.YtpjmfembpckohaaGreatDoorLab5
import Derived.Test.YtpjmfembpckohaaGreatDoorLab6
import Derived.Test.YtpjmfembpckohaaGreatDoorLKey
namespace Go.Proofs.YtpjmfembpckohaaGreatDoor
open Go.RowKit

def inAw : List Pr := [(⟨#[98]⟩, ⟨#[50]⟩), (⟨#[97]⟩, ⟨#[49]⟩)]
def outAw : List Pr := [(⟨#[97]⟩, ⟨#[49]⟩), (⟨#[98]⟩, ⟨#[50]⟩)]
def oneAw : List Pr := [(⟨#[97]⟩, ⟨#[]⟩)]

theorem inAw_sort : sortE inAw = 0 := by
  have h1 : partsE inAw = 0 := by decide +kernel
  have h2 : Once inAw := by unfold Once inAw; simp [nm, ByteArray.toList_eq]
  unfold sortE
  rw [h1, if_neg (by simp), if_pos h2]
theorem outAw_rise : Rise outAw := by
  unfold Rise outAw
  simp [nm, ByteArray.toList_eq]
  decide
theorem outAw_perm : outAw.Perm inAw := List.Perm.swap _ _ _
theorem aw_eq {qs : List Pr} (hp : qs.Perm inAw) (hr : Rise qs) : qs = outAw := rise_eq (hp.trans outAw_perm.symm) hr outAw_rise
theorem key_aw : keyL outAw = [108, 49, 58, 97, 49, 58, 49, 49, 58, 98, 49, 58, 50, 101] := by decide +kernel
theorem get_aw : getV outAw (ByteArray.toList ⟨#[98]⟩) = ⟨#[50]⟩ := by
  unfold getV outAw
  simp [nm, ByteArray.toList_eq]
theorem one_aw : checkE oneAw = 6 := by
  have h1 : partsE oneAw = 6 := by decide +kernel
  unfold checkE
  rw [h1, if_pos (by decide)]

theorem outAw_len : outAw.length ≤ 1048576 := show 2 ≤ 1048576 by omega
theorem outAw_len2 : outAw.length ≤ 9223372036854775807 := show 2 ≤ 9223372036854775807 by omega
theorem outAw_sz : ∀ p ∈ outAw, p.1.size ≤ 1048576 ∧ p.2.size ≤ 1048576 := fun p hp => by
  simp only [outAw, List.mem_cons, List.not_mem_nil, or_false] at hp
  rcases hp with rfl | rfl
  · exact ⟨show 1 ≤ 1048576 by omega, show 1 ≤ 1048576 by omega⟩
  · exact ⟨show 1 ≤ 1048576 by omega, show 1 ≤ 1048576 by omega⟩
theorem outAw_fl : (partsK outAw).flatten.length ≤ 140737488355000 := by
  have : (partsK outAw).flatten.length = 12 := by decide +kernel
  omega

theorem pairsAt_two (w : World) (x y : Pr) : PairsAt (w.alloc (.cells #[.string x.1, .string x.2, .string y.1, .string y.2] 37)) (some ⟨w.heap.size, 0, none⟩) [x, y] := fun _ => ⟨_, 0, rfl, fun i hi => by
  match i, hi with
  | 0, _ => exact ⟨by rw [World.cell?_alloc_mark]; rfl, by rw [World.cell?_alloc_mark]; rfl⟩
  | 1, _ => exact ⟨by rw [World.cell?_alloc_mark]; rfl, by rw [World.cell?_alloc_mark]; rfl⟩⟩
theorem pairsAt_one (w : World) (x : Pr) : PairsAt (w.alloc (.cells #[.string x.1, .string x.2] 37)) (some ⟨w.heap.size, 0, none⟩) [x] := fun _ => ⟨_, 0, rfl, fun i hi => by
  match i, hi with
  | 0, _ => exact ⟨by rw [World.cell?_alloc_mark]; rfl, by rw [World.cell?_alloc_mark]; rfl⟩⟩

set_option maxHeartbeats 2000000 in
set_option maxRecDepth 100000 in
theorem awake_any (B : Nat) (w : World) (hB : B ≤ w.heap.size) (hv : TabOk B w) :
    Calls Tryz.prog 10 #[] w fun e w' => e = .returned (.bool true) ∧ Below w.heap.size w w' := by
  have hin := pairsAt_two w (⟨#[98]⟩, ⟨#[50]⟩) (⟨#[97]⟩, ⟨#[49]⟩)
  have HS := Lib.hid (Sort_any _ 2 inAw _ hin 2 rfl)
  rw [inAw_sort] at HS
  have hn0 : Below w.heap.size w (w.alloc (.cells #[.string ⟨#[98]⟩, .string ⟨#[50]⟩, .string ⟨#[97]⟩, .string ⟨#[49]⟩] 37)) := (Below.refl w.heap.size w).alloc (Nat.le_refl _) _
  clear hin
  go_enter Tryz.func10, Tryz.ntmps10
  go_wp2_with (go_at_call 28; refine HS.out.mono ?_; rintro e w1 ⟨a1, k1, c1, qs, rfl, hk, hheld, hb1, -, hp⟩; have hkk := Lib.hid hk; clear hk; refine Hid.out ?_)
  refine Lib.hid ?_
  obtain ⟨hperm, hrise⟩ := hp trivial
  obtain rfl := aw_eq hperm hrise
  have hat1 := hheld.at
  have hn1 := hn0.trans (hb1.mono (by simp))
  have hs1 := hn1.size
  have hv1 := hv.on (hn1.mono hB)
  clear hheld hperm hrise hp hn0
  have HK := Lib.hid (Key_any a1 c1 outAw B w1 hat1 outAw_len outAw_sz outAw_fl (by omega) hv1 k1 hkk.out)
  rw [key_aw] at HK
  go_wp2_with (go_at_call 6; refine HK.out.mono ?_; rintro e w2 ⟨rfl, hb2⟩; refine Hid.out ?_)
  refine Lib.hid ?_
  have hs2 := hb2.size
  have HG := Lib.hid (Get_any a1 c1 outAw ⟨#[98]⟩ w2 (hat1.below hb2 (Nat.le_refl _)) outAw_len2 k1 hkk.out)
  rw [get_aw] at HG
  go_wp2_with (go_at_call 29; refine HG.out.mono ?_; rintro e w3 ⟨rfl, hb3⟩; refine Hid.out ?_)
  refine Lib.hid ?_
  have hs3 := hb3.size
  have HC := Lib.hid (Check_any _ 1 oneAw _ (pairsAt_one w3 (⟨#[97]⟩, ⟨#[]⟩)))
  rw [one_aw] at HC
  go_wp2_with (go_at_call 18; refine HC.out.mono ?_; rintro e w4 ⟨rfl, hb4⟩; refine Hid.out ?_)
  refine Lib.hid ?_
  go_wp2
  go_ret
  refine ⟨rfl, ((hn1.trans (hb2.mono hs1)).trans (hb3.mono (by omega))).trans (((Below.refl w.heap.size w3).alloc (by omega) _).trans (hb4.mono (by simp; omega)))⟩

end Go.Proofs.YtpjmfembpckohaaGreatDoor
