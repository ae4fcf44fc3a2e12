/-
  What Key of package nflog tells; sendings and their entries.
-/
import Derived.Test.YtieepbjngolaoaaDoorE3
import Derived.Test.YtieepbjngolaoaaDoorPut2
import Derived.Test.YtieepbjngolaoaaDoorRow
import Derived.Test.YtieepbjngolaoaaDoorNCnt
namespace Go.Proofs.YtieepbjngolaoaaDoor
open Go.RowKit

/-- A sending. -/
structure Snd where
  r : ByteArray
  k : ByteArray
  v : ByteArray
  t : Int
def partsN (r g : ByteArray) : List (List UInt8) := [putText r.data.toList, putText g.data.toList]
/-- The key of a group's sendings. -/
def keyN (r g : ByteArray) : ByteArray := ⟨#[110]⟩ ++ ⟨(putList (partsN r g)).toArray⟩
/-- A sending's entry. -/
def entN (s : Snd) (o keep : Int) : Ent := ⟨keyN s.r s.k, s.t, o, s.v, IntKind.i64.wrap (s.t + keep)⟩
/-- Why there is none (0: there is). -/
def errN (s : Snd) (keep : Int) : Int := if s.r.size = 0 ∨ s.k.size = 0 then 2 else checkEn (entN s 0 keep)
theorem partsN_short (r g : ByteArray) (hr : r.size ≤ 1048576) (hg : g.size ≤ 1048576) : (partsN r g).flatten.length ≤ 3000000 := by
  have h3 : r.data.toList.length = r.size := rfl
  have h4 : g.data.toList.length = g.size := rfl
  have h1 := itoa_len20 (r.data.toList.length : Int) (by omega) (by omega)
  have h2 := itoa_len20 (g.data.toList.length : Int) (by omega) (by omega)
  simp only [partsN, putText, List.flatten_cons, List.flatten_nil, List.length_append, List.length_cons, List.length_nil]
  omega
theorem putList_len (ls : List (List UInt8)) : (putList ls).length = ls.flatten.length + 2 := by simp [putList]
theorem checkEn_o (k v : ByteArray) (t o o' u : Int) : checkEn ⟨k, t, o, v, u⟩ = checkEn ⟨k, t, o', v, u⟩ := rfl

set_option maxHeartbeats 4000000 in
set_option maxRecDepth 100000 in
theorem fKey_any (r g : ByteArray) (hr : r.size ≤ 1048576) (hg : g.size ≤ 1048576) (B : Nat) (W : World) (hB : B ≤ W.heap.size) (hv : VarsOk B W) :
    Calls Tryd.prog 12 #[.string r, .string g] W fun e w' => e = .returned (.string (keyN r g)) ∧ Below W.heap.size W w' := by
  have HT1 := Lib.hid (Text_val r (by omega) B W hB hv)
  have HV := Lib.hid (And.intro hB (And.intro hv (And.intro hr hg)))
  clear hB hv hr hg
  go_enter Tryd.func12, Tryd.ntmps12
  go_wp2_with (go_at_call 28; refine HT1.out.mono ?_; rintro e w1 ⟨a1, k1, c1, rfl, ho1, hb1⟩; refine Hid.out ?_)
  refine Lib.hid ?_
  obtain ⟨hB, hv, hr, hg⟩ := HV.out
  have HT2 := Lib.hid (Text_val g (by omega) B w1 (Nat.le_trans hB hb1.size) (hv.on (hb1.mono hB)))
  have HO1 := Lib.hid (And.intro ho1 hb1)
  clear hB hv hr hg ho1 hb1 HT1
  go_wp2_with (go_at_call 28; refine HT2.out.mono ?_; rintro e w2 ⟨a2, k2, c2, rfl, ho2, hb2⟩; refine Hid.out ?_)
  refine Lib.hid ?_
  have hbb : Below w2.heap.size w2 (w2.alloc (.cells #[.slice a1 k1 c1, .slice a2 k2 c2] 48)) := (Below.refl _ _).alloc (Nat.le_refl _) _
  have n0 := newE w2 (.cells #[.slice a1 k1 c1, .slice a2 k2 c2] 48)
  have e1 := (HO1.out.1.src.below hb2 (Nat.le_refl _)).below hbb (Nat.le_refl _)
  have e2 := ho2.src.below hbb (Nat.le_refl _)
  have hp : PartsAt (w2.alloc (.cells #[.slice a1 k1 c1, .slice a2 k2 c2] 48)) (some ⟨w2.heap.size, 0, none⟩) (partsN r g) := fun _ => ⟨_, 0, rfl, fun i hi => by
    match i, hi with
    | 0, _ => exact ⟨_, cellE n0, e1⟩
    | 1, _ => exact ⟨_, cellE n0, e2⟩⟩
  have hlen : (partsN r g).flatten.length ≤ 140737488355000 := by have := partsN_short r g HV.out.2.2.1 HV.out.2.2.2; omega
  have hcat : ¬ 9223372036854775807 < 1 + (putList (partsN r g)).length := by have := partsN_short r g HV.out.2.2.1 HV.out.2.2.2; rw [putList_len]; omega
  have HL := Lib.hid (List_val (some ⟨w2.heap.size, 0, none⟩) 2 _ _ hp (by simp [partsN]) hlen 2 rfl)
  have HN := Lib.hid ((HO1.out.2.trans (hb2.mono HO1.out.2.size)).trans (hbb.mono (HO1.out.2.trans (hb2.mono HO1.out.2.size)).size))
  clear hp e1 e2 n0 hbb hlen ho2 hb2 HT2 HO1
  go_wp2_with (go_at_call 27; refine HL.out.mono ?_; rintro e w3 ⟨a3, k3, c3, rfl, ho3, hb3⟩; refine Hid.out ?_)
  refine Lib.hid ?_
  have hcv := own_string ho3
  have HQ := Lib.hid (HN.out.trans (hb3.mono HN.out.size))
  clear HL HN hb3 ho3
  go_wp2
  go_ret
  exact ⟨rfl, HQ.out⟩

end Go.Proofs.YtieepbjngolaoaaDoor
