/-
  Calls of both readers, with an error or without, each in one contract.
-/
import Derived.Test.YtchhdffehkcecaaDoorRefI
import Derived.Test.YtchhdffehkcecaaDoorTwo
import Derived.Test.YtchhdffehkcecaaDoorRd6
namespace Go.Proofs.YtchhdffehkcecaaDoor
open Go.RowKit

/-- What is left of the reference's reader. -/
structure XS (w : World) (a : Option Addr) (c : Nat) (l : List UInt8) (e : Int) : Prop where
  src : SrcAt w (.slice a l.length c) l
  cap : l.length ≤ c
  lim : l.length ≤ 140737488355328
  err : e ≠ 0 → l = []

theorem refInt_full (a : Option Addr) (c : Nat) (l : List UInt8) (e : Int) (w : World) (h : XS w a c l e) {l1 : List UInt8} {e1 n : Int} (hT : intE e l = (l1, e1, n)) :
    Calls Tryd.prog 34 #[.agg #[.slice a l.length c, .int .i64 e]] w fun r w' => refInts w w' a r (l1, e1, n) := by
  by_cases h0 : e = 0
  · subst h0
    have := refrInt_any a c l w h.src h.cap h.lim
    rw [show rdInt l = (l1, e1, n) from hT] at this
    exact this
  · obtain rfl := h.err h0
    simp only [intE, if_neg h0, Prod.mk.injEq] at hT
    obtain ⟨rfl, rfl, rfl⟩ := hT
    exact (refrInt_err a 0 c e w (ne_bool h0)).mono fun r w' ⟨h1, h2⟩ => ⟨⟨a, c, h1, h.src.below h2 (Nat.le_refl _), Nat.zero_le _, fun q hq => ⟨q, hq, rfl⟩⟩, h2⟩
theorem refText_full (a : Option Addr) (c : Nat) (l : List UInt8) (e most : Int) (w : World) (h : XS w a c l e) {l1 s : List UInt8} {e1 : Int} (hT : textE most e l = (l1, e1, s)) :
    Calls Tryd.prog 62 #[.agg #[.slice a l.length c, .int .i64 e], .int .i64 most] w fun r w' => refTexts w w' a r (l1, e1, s) := by
  by_cases h0 : e = 0
  · subst h0
    have := refrText_any a c l most w h.src h.cap h.lim
    rw [show rdText most l = (l1, e1, s) from hT] at this
    exact this
  · obtain rfl := h.err h0
    simp only [textE, if_neg h0, Prod.mk.injEq] at hT
    obtain ⟨rfl, rfl, rfl⟩ := hT
    exact (refrText_err a 0 c e most w (ne_bool h0)).mono fun r w' ⟨h1, h2⟩ => ⟨⟨a, c, h1, h.src.below h2 (Nat.le_refl _), Nat.zero_le _, fun q hq => ⟨q, hq, rfl⟩⟩, h2⟩
theorem refByte_full (a : Option Addr) (c : Nat) (l : List UInt8) (ch : UInt8) (e : Int) (w : World) (h : XS w a c l e) {l1 : List UInt8} {e1 : Int} (hT : byteE ch e l = (l1, e1)) :
    Calls Tryd.prog 33 #[.agg #[.slice a l.length c, .int .i64 e], .int .u8 ch.toNat] w fun r w' =>
      (∃ a' c', r = .returned (.agg #[.slice a' l1.length c', .int .i64 e1]) ∧ SrcAt w' (.slice a' l1.length c') l1 ∧ l1.length ≤ c' ∧ ∀ q, a' = some q → ∃ q0, a = some q0 ∧ q.block = q0.block) ∧ Below w.heap.size w w' := by
  by_cases h0 : e = 0
  · subst h0
    have := refByte_any a c l ch w h.src h.cap
    rw [show rdByte ch l = (l1, e1) from hT] at this
    exact this
  · obtain rfl := h.err h0
    simp only [byteE, if_neg h0, Prod.mk.injEq] at hT
    obtain ⟨rfl, rfl⟩ := hT
    exact (refByte_err a 0 c e ch.toNat w (ne_bool h0)).mono fun r w' ⟨h1, h2⟩ => ⟨⟨a, c, h1, h.src.below h2 (Nat.le_refl _), Nat.zero_le _, fun q hq => ⟨q, hq, rfl⟩⟩, h2⟩

theorem XS.low {w w' : World} {a : Option Addr} {c : Nat} {l : List UInt8} {e : Int} {B : Nat} (h : XS w a c l e) (hb : Below B w w') (hq : ∀ q, a = some q → q.block < B) : XS w' a c l e := ⟨h.src.low hb hq, h.cap, h.lim, h.err⟩
theorem XS.below {w w' : World} {a : Option Addr} {c : Nat} {l : List UInt8} {e : Int} (h : XS w a c l e) (hb : Below w.heap.size w w') : XS w' a c l e := ⟨h.src.below hb (Nat.le_refl _), h.cap, h.lim, h.err⟩

end Go.Proofs.YtchhdffehkcecaaDoor
