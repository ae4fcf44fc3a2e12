/-
  The reference's Counts, walked.
-/
import Derived.Test.YtieepbjngolaoaaDoorNCnt
import Derived.Test.YtieepbjngolaoaaDoorRef6
import Derived.Test.YtieepbjngolaoaaDoorTwo
namespace Go.Proofs.YtieepbjngolaoaaDoor
open Go.RowKit

/-- The reference's reader in a block of its own. -/
structure XR (w : World) (rb : Nat) (a : Option Addr) (c : Nat) (l : List UInt8) (e : Int) : Prop where
  blk : Two w rb 62 (.slice a l.length c) (.int .i64 e)
  xs : XS w a c l e
  low : ∀ q, a = some q → q.block < rb
theorem XR.below {w w' : World} {rb : Nat} {a : Option Addr} {c : Nat} {l : List UInt8} {e : Int} (h : XR w rb a c l e) (hb : Below w.heap.size w w') : XR w' rb a c l e := ⟨h.blk.below hb h.blk.lt, h.xs.below hb, h.low⟩
/-- Another one in its place. -/
theorem XR.put {w : World} {rb : Nat} {a a1 : Option Addr} {c c1 : Nat} {l l1 : List UInt8} {e e1 : Int} (h : XR w rb a c l e) (hs : SrcAt w (.slice a1 l1.length c1) l1) (hc : l1.length ≤ c1) (hm : l1.length ≤ 140737488355328) (he : e1 ≠ 0 → l1 = []) (hl : ∀ q, a1 = some q → ∃ q0, a = some q0 ∧ q.block = q0.block) :
    XR ((w.setCell ⟨rb, 0, none⟩ (.slice a1 l1.length c1)).setCell ⟨rb, 1, none⟩ (.int .i64 e1)) rb a1 c1 l1 e1 := by
  have hl' : ∀ q, a1 = some q → q.block < rb := fun q hq => by
    obtain ⟨q0, h0, h1⟩ := hl q hq
    have := h.low q0 h0
    omega
  have hb : Below rb w ((w.setCell ⟨rb, 0, none⟩ (.slice a1 l1.length c1)).setCell ⟨rb, 1, none⟩ (.int .i64 e1)) := ((Below.refl rb w).setCell (p := ⟨rb, 0, none⟩) (Nat.le_refl _) _).setCell (p := ⟨rb, 1, none⟩) (Nat.le_refl _) _
  exact ⟨(h.blk.set0 _).set1 _, ⟨hs.low hb hl', hc, hm, he⟩, hl'⟩
/-- How many bytes are left, as memory tells it. -/
def leftX (rb : Nat) (w : World) : Nat := match w.cell? ⟨rb, 0, none⟩ with | some (.slice _ n _) => n | _ => 0
theorem XR.leftX {w : World} {rb : Nat} {a : Option Addr} {c : Nat} {l : List UInt8} {e : Int} (h : XR w rb a c l e) : leftX rb w = l.length := by
  unfold Go.Proofs.YtieepbjngolaoaaDoor.leftX
  rw [h.blk.c0]
theorem two_below {w w' : World} {B rb : Nat} {v1 v2 : Value} (h : Below B w w') (hB : B ≤ rb) : Below B w ((w'.setCell ⟨rb, 0, none⟩ v1).setCell ⟨rb, 1, none⟩ v2) := (h.setCell (p := ⟨rb, 0, none⟩) hB _).setCell (p := ⟨rb, 1, none⟩) hB _

end Go.Proofs.YtieepbjngolaoaaDoor
