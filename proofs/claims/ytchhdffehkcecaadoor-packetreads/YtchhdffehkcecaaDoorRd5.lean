/-
  What Open, Close and Text of a reader make of what is left, each in one contract.
-/
import Derived.Test.YtchhdffehkcecaaDoorRd4
namespace Go.Proofs.YtchhdffehkcecaaDoor
open Go.RowKit

/-- What Open, or Close, makes of what is left, where there was no error. -/
def rdByte (ch : UInt8) : List UInt8 → List UInt8 × Int
  | [] => ([], 3)
  | x :: l => if x = ch then (l, 0) else ([], 4)

theorem ne_byte {x ch : UInt8} {n : Nat} (hn : ch.toNat = n) (h : ¬ x = ch) : ((x.toNat : Int) != n) = true := by
  have : x.toNat ≠ ch.toNat := fun e => h (UInt8.toNat_inj.1 e)
  simp
  omega

theorem Open_any (rb : Nat) (a : Option Addr) (c : Nat) (l : List UInt8) (w : World) (h : Rd w rb a c l 0) :
    Calls Tryd.prog 52 #[.pointer (some ⟨rb, 0, none⟩)] w fun r w' => r = .returned (.tuple #[]) ∧ (∃ a c, Rd w' rb a c (rdByte 108 l).1 (rdByte 108 l).2) ∧ w.grownBy w' (some rb) := by
  cases l with
  | nil => exact (Open_cut rb a c w h).mono fun r w' ⟨h1, h2, h3⟩ => ⟨h1, ⟨_, _, h2⟩, h3⟩
  | cons x l =>
    by_cases hx : x = 108
    · subst hx
      have e : rdByte 108 (108 :: l) = (l, 0) := by simp [rdByte]
      rw [e]
      exact (Open_ok rb a c l w h).mono fun r w' ⟨h1, ⟨p, h2⟩, h3⟩ => ⟨h1, ⟨_, _, h2⟩, h3⟩
    · have e : rdByte 108 (x :: l) = ([], 4) := if_neg hx
      rw [e]
      exact (Open_other rb a c x l w h (ne_byte rfl hx)).mono fun r w' ⟨h1, h2, h3⟩ => ⟨h1, ⟨_, _, h2⟩, h3⟩

theorem Close_any (rb : Nat) (a : Option Addr) (c : Nat) (l : List UInt8) (w : World) (h : Rd w rb a c l 0) :
    Calls Tryd.prog 70 #[.pointer (some ⟨rb, 0, none⟩)] w fun r w' => r = .returned (.tuple #[]) ∧ (∃ a c, Rd w' rb a c (rdByte 101 l).1 (rdByte 101 l).2) ∧ w.grownBy w' (some rb) := by
  cases l with
  | nil => exact (Close_cut rb a c w h).mono fun r w' ⟨h1, h2, h3⟩ => ⟨h1, ⟨_, _, h2⟩, h3⟩
  | cons x l =>
    by_cases hx : x = 101
    · subst hx
      have e : rdByte 101 (101 :: l) = (l, 0) := by simp [rdByte]
      rw [e]
      exact (Close_ok rb a c l w h).mono fun r w' ⟨h1, ⟨p, h2⟩, h3⟩ => ⟨h1, ⟨_, _, h2⟩, h3⟩
    · have e : rdByte 101 (x :: l) = ([], 4) := if_neg hx
      rw [e]
      exact (Close_other rb a c x l w h (ne_byte rfl hx)).mono fun r w' ⟨h1, h2, h3⟩ => ⟨h1, ⟨_, _, h2⟩, h3⟩

theorem rText_eq (rb : Nat) (a : Option Addr) (c : Nat) (l : List UInt8) (most : Int) (B : Nat) (w : World) (h : Rd w rb a c l 0) (hB : B ≤ rb) (hv : VarsOk B w) {l1 s1 : List UInt8} {e1 : Int} (hT : rdText most l = (l1, e1, s1)) :
    Calls Tryd.prog 71 #[.pointer (some ⟨rb, 0, none⟩), .int .i64 most] w fun r w' => r = .returned (.string ⟨s1.toArray⟩) ∧ (∃ a c, Rd w' rb a c l1 e1) ∧ w.grownBy w' (some rb) := by
  have := rText_any rb a c l most B w h hB hv
  rw [hT] at this
  exact this

/-- How many bytes are left, as memory tells it. -/
def leftN (rb : Nat) (w : World) : Nat := match w.cell? ⟨rb, 0, none⟩ with | some (.slice _ n _) => n | _ => 0
theorem Rd.leftN {w : World} {rb : Nat} {a : Option Addr} {c : Nat} {l : List UInt8} {e : Int} (h : Rd w rb a c l e) : leftN rb w = l.length := by
  unfold Go.Proofs.YtchhdffehkcecaaDoor.leftN
  rw [h.blk.cell0]

/-- A row of the call's own, above the reader, has turned: the reader stands. -/
theorem Rd.above {w w' : World} {rb : Nat} {a : Option Addr} {c : Nat} {l : List UInt8} {e : Int} {r : Option Nat} (h : Rd w rb a c l e) (hg : w.grownBy w' r) (hr : ∀ k, r = some k → rb < k) : Rd w' rb a c l e := by
  refine h.mono hg (fun e => ?_) (fun p hp e => ?_)
  · exact absurd (hr rb e.symm) (Nat.lt_irrefl _)
  · have h1 := hr p.block e.symm
    have h2 := h.away p hp
    omega

end Go.Proofs.YtchhdffehkcecaaDoor
