/-
  The closed case of every statement of layer 3: it answers true, whatever else lies in memory.
-/
import Derived.Test.YtlcbkhmaemoahaaDoorXQuote
namespace Go.Proofs.YtlcbkhmaemoahaaDoor
open Go.RowKit

def awA : Lang := altL noL (catL (catL (catL epsL (PlusL (setL (addB noneB 97 99)))) (setL (addB noneB 46 46))) (setL (notB (addB noneB 120 120))))
theorem aw1 : pParse [91, 97, 45, 99, 93, 43, 92, 46, 91, 94, 120, 93] = some awA := by rfl
theorem aw1_yes : awA [99, 97, 98, 46, 121] := by
  refine .inr ⟨[99, 97, 98, 46], [121], rfl, ⟨[99, 97, 98], [46], rfl, ⟨[], [99, 97, 98], rfl, rfl, ?_⟩, ⟨46, rfl, by decide⟩⟩, ⟨121, rfl, by decide⟩⟩
  exact PlusL.more (u := [99]) (v := [97, 98]) ⟨99, rfl, by decide⟩ (PlusL.more (u := [97]) (v := [98]) ⟨97, rfl, by decide⟩ (PlusL.one ⟨98, rfl, by decide⟩))
def awB : Lang := altL noL (catL epsL (setL (addB noneB 97 97)))
theorem aw2 : pParse [97] = some awB := by rfl
theorem aw2_no : ¬ awB [97, 98] := by
  rintro (h | ⟨u, v, h1, rfl, c, rfl, -⟩)
  · exact h
  · cases h1
theorem aw3 : errE [42, 97] = 9 := by rfl
theorem aw4 : quoteL [97, 46, 98] = [97, 92, 46, 98] := by rfl

set_option maxHeartbeats 2000000 in
theorem awake_any (w : World) (htab : TabW w) : Calls Tryd.prog 9 #[] w fun e w' => e = .returned (.bool true) ∧ Below w.heap.size w w' := by
  have htl := htab.lt
  have H1 := Lib.hid (like_good ⟨#[91, 97, 45, 99, 93, 43, 92, 46, 91, 94, 120, 93]⟩ ⟨#[99, 97, 98, 46, 121]⟩ w (by decide) htab awA aw1 (by decide))
  go_enter Tryd.func9, Tryd.ntmps9
  go_wp2_with (go_at_call 12; refine H1.out.mono ?_; rintro e w1 ⟨⟨b, rfl, hb⟩, hb1⟩; refine Hid.out ?_)
  refine Lib.hid ?_
  obtain rfl : b = true := hb.2 aw1_yes
  clear hb
  have ht1 := htab.on hb1 htl
  have H2 := Lib.hid (like_good ⟨#[97]⟩ ⟨#[97, 98]⟩ w1 (by decide) ht1 awB aw2 (by decide))
  go_wp2_with (go_at_call 12; refine H2.out.mono ?_; rintro e w2 ⟨⟨b, rfl, hb⟩, hb2⟩; refine Hid.out ?_)
  refine Lib.hid ?_
  obtain rfl : b = false := Bool.eq_false_iff.2 fun e => aw2_no (hb.1 e)
  clear hb
  have ht2 := ht1.on hb2 ht1.lt
  have H3 := Lib.hid (like_err ⟨#[42, 97]⟩ ⟨#[97]⟩ w2 ht2 (by decide))
  rw [show errE (ByteArray.mk #[42, 97]).data.toList = 9 from aw3] at H3
  go_wp2_with (go_at_call 12; refine H3.out.mono ?_; rintro e w3 ⟨rfl, hb3⟩; refine Hid.out ?_)
  refine Lib.hid ?_
  have H4 := Lib.hid (quote_any ⟨#[97, 46, 98]⟩ w3 (by decide))
  rw [show quoteL (ByteArray.mk #[97, 46, 98]).data.toList = [97, 92, 46, 98] from aw4] at H4
  go_wp2_with (go_at_call 29; refine H4.out.mono ?_; rintro e w4 ⟨rfl, hb4⟩)
  go_ret
  exact ⟨rfl, ((hb1.trans (hb2.mono hb1.size)).trans (hb3.mono (Nat.le_trans hb1.size hb2.size))).trans (hb4.mono (Nat.le_trans (Nat.le_trans hb1.size hb2.size) hb3.size))⟩

end Go.Proofs.YtlcbkhmaemoahaaDoor
