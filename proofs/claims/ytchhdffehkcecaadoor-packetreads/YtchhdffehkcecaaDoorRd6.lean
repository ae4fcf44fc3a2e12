/-
  Calls of a reader, with an error or without, each in one contract.
-/
import Derived.Test.YtchhdffehkcecaaDoorRd5
import Derived.Test.YtchhdffehkcecaaDoorPlain
namespace Go.Proofs.YtchhdffehkcecaaDoor
open Go.RowKit

def intE (e : Int) (l : List UInt8) : List UInt8 × Int × Int := if e = 0 then rdInt l else ([], e, 0)
def textE (most e : Int) (l : List UInt8) : List UInt8 × Int × List UInt8 := if e = 0 then rdText most l else ([], e, [])
def byteE (ch : UInt8) (e : Int) (l : List UInt8) : List UInt8 × Int := if e = 0 then rdByte ch l else ([], e)
theorem ne_bool {e : Int} (h : ¬ e = 0) : (e != 0) = true := by simpa using h

theorem rInt_full (rb : Nat) (a : Option Addr) (c : Nat) (l : List UInt8) (e : Int) (B : Nat) (w : World) (h : Rd w rb a c l e) (hB : B ≤ rb) (hv : VarsOk B w) {l1 : List UInt8} {e1 n : Int} (hT : intE e l = (l1, e1, n)) :
    Calls Tryd.prog 53 #[.pointer (some ⟨rb, 0, none⟩)] w fun r w' => r = .returned (.int .i64 n) ∧ (∃ a c, Rd w' rb a c l1 e1) ∧ w.grownBy w' (some rb) := by
  by_cases h0 : e = 0
  · subst h0
    have := rInt_any rb a c l B w h hB hv
    rw [show rdInt l = (l1, e1, n) from hT] at this
    exact this
  · obtain rfl := h.err h0
    simp only [intE, if_neg h0, Prod.mk.injEq] at hT
    obtain ⟨rfl, rfl, rfl⟩ := hT
    exact (rInt_err rb a c [] e w h (ne_bool h0)).mono fun r w' ⟨h1, h2⟩ => ⟨h1, ⟨a, c, by rw [h2]; exact h⟩, by rw [h2]; exact grownBy_refl w _⟩
theorem rText_full (rb : Nat) (a : Option Addr) (c : Nat) (l : List UInt8) (e most : Int) (B : Nat) (w : World) (h : Rd w rb a c l e) (hB : B ≤ rb) (hv : VarsOk B w) {l1 s : List UInt8} {e1 : Int} (hT : textE most e l = (l1, e1, s)) :
    Calls Tryd.prog 71 #[.pointer (some ⟨rb, 0, none⟩), .int .i64 most] w fun r w' => r = .returned (.string ⟨s.toArray⟩) ∧ (∃ a c, Rd w' rb a c l1 e1) ∧ w.grownBy w' (some rb) := by
  by_cases h0 : e = 0
  · subst h0
    exact rText_eq rb a c l most B w h hB hv hT
  · obtain rfl := h.err h0
    simp only [textE, if_neg h0, Prod.mk.injEq] at hT
    obtain ⟨rfl, rfl, rfl⟩ := hT
    exact (rText_err rb a c [] e most w h (ne_bool h0)).mono fun r w' ⟨h1, h2⟩ => ⟨h1, ⟨a, c, by rw [h2]; exact h⟩, by rw [h2]; exact grownBy_refl w _⟩
theorem Open_full (rb : Nat) (a : Option Addr) (c : Nat) (l : List UInt8) (e : Int) (w : World) (h : Rd w rb a c l e) {l1 : List UInt8} {e1 : Int} (hT : byteE 108 e l = (l1, e1)) :
    Calls Tryd.prog 52 #[.pointer (some ⟨rb, 0, none⟩)] w fun r w' => r = .returned (.tuple #[]) ∧ (∃ a c, Rd w' rb a c l1 e1) ∧ w.grownBy w' (some rb) := by
  by_cases h0 : e = 0
  · subst h0
    have := Open_any rb a c l w h
    rw [show rdByte 108 l = (l1, e1) from hT] at this
    exact this
  · obtain rfl := h.err h0
    simp only [byteE, if_neg h0, Prod.mk.injEq] at hT
    obtain ⟨rfl, rfl⟩ := hT
    exact (Open_err rb a c [] e w h (ne_bool h0)).mono fun r w' ⟨h1, h2⟩ => ⟨h1, ⟨a, c, by rw [h2]; exact h⟩, by rw [h2]; exact grownBy_refl w _⟩
theorem Close_full (rb : Nat) (a : Option Addr) (c : Nat) (l : List UInt8) (e : Int) (w : World) (h : Rd w rb a c l e) {l1 : List UInt8} {e1 : Int} (hT : byteE 101 e l = (l1, e1)) :
    Calls Tryd.prog 70 #[.pointer (some ⟨rb, 0, none⟩)] w fun r w' => r = .returned (.tuple #[]) ∧ (∃ a c, Rd w' rb a c l1 e1) ∧ w.grownBy w' (some rb) := by
  by_cases h0 : e = 0
  · subst h0
    have := Close_any rb a c l w h
    rw [show rdByte 101 l = (l1, e1) from hT] at this
    exact this
  · obtain rfl := h.err h0
    simp only [byteE, if_neg h0, Prod.mk.injEq] at hT
    obtain ⟨rfl, rfl⟩ := hT
    exact (Close_err rb a c [] e w h (ne_bool h0)).mono fun r w' ⟨h1, h2⟩ => ⟨h1, ⟨a, c, by rw [h2]; exact h⟩, by rw [h2]; exact grownBy_refl w _⟩

/-- Errors leave nothing; nothing grows. -/
theorem intE_err {e : Int} {l l1 : List UInt8} {e1 n : Int} (h : intE e l = (l1, e1, n)) : (e1 ≠ 0 → l1 = []) ∧ l1.length ≤ l.length := by
  by_cases h0 : e = 0
  · subst h0
    have hr : rdInt l = (l1, e1, n) := h
    by_cases h1 : e1 = 0
    · subst h1
      rw [rdInt_laid hr]
      exact ⟨fun h => absurd rfl h, by simp⟩
    · have : l1 = [] := by
        cases l with
        | nil => simp [rdInt] at hr; exact hr.1
        | cons x l =>
          simp only [rdInt] at hr
          split at hr
          · simp at hr; exact hr.1
          · split at hr
            · split at hr <;> (simp at hr; exact hr.1)
            · split at hr
              · simp only [Prod.mk.injEq] at hr; exact absurd hr.2.1.symm h1
              · simp at hr; exact hr.1
      rw [this]
      exact ⟨fun _ => rfl, Nat.zero_le _⟩
  · simp only [intE, if_neg h0, Prod.mk.injEq] at h
    obtain ⟨rfl, -, -⟩ := h
    exact ⟨fun _ => rfl, Nat.zero_le _⟩
theorem textE_err {most e : Int} {l l1 s : List UInt8} {e1 : Int} (h : textE most e l = (l1, e1, s)) : (e1 ≠ 0 → l1 = []) ∧ l1.length ≤ l.length := by
  by_cases h0 : e = 0
  · subst h0
    have hr : rdText most l = (l1, e1, s) := h
    by_cases h1 : e1 = 0
    · subst h1
      rw [rdText_laid hr]
      exact ⟨fun h => absurd rfl h, by simp⟩
    · have : l1 = [] := by
        cases l with
        | nil => simp [rdText] at hr; exact hr.1
        | cons x l =>
          simp only [rdText] at hr
          split at hr
          · simp at hr; exact hr.1
          · split at hr
            · split at hr <;> (simp at hr; exact hr.1)
            · split at hr
              · simp at hr; exact hr.1
              · split at hr
                · simp at hr; exact hr.1
                · split at hr
                  · simp at hr; exact hr.1
                  · split at hr
                    · simp at hr; exact hr.1
                    · simp only [Prod.mk.injEq] at hr; exact absurd hr.2.1.symm h1
      rw [this]
      exact ⟨fun _ => rfl, Nat.zero_le _⟩
  · simp only [textE, if_neg h0, Prod.mk.injEq] at h
    obtain ⟨rfl, -, -⟩ := h
    exact ⟨fun _ => rfl, Nat.zero_le _⟩
theorem byteE_err {ch : UInt8} {e : Int} {l l1 : List UInt8} {e1 : Int} (h : byteE ch e l = (l1, e1)) : (e1 ≠ 0 → l1 = []) ∧ l1.length ≤ l.length := by
  by_cases h0 : e = 0
  · subst h0
    have hr : rdByte ch l = (l1, e1) := h
    cases l with
    | nil =>
      simp only [rdByte, Prod.mk.injEq] at hr
      obtain ⟨rfl, -⟩ := hr
      exact ⟨fun _ => rfl, Nat.zero_le _⟩
    | cons x l =>
      simp only [rdByte] at hr
      split at hr
      · simp only [Prod.mk.injEq] at hr
        obtain ⟨rfl, rfl⟩ := hr
        exact ⟨fun h => absurd rfl h, by simp⟩
      · simp only [Prod.mk.injEq] at hr
        obtain ⟨rfl, -⟩ := hr
        exact ⟨fun _ => rfl, Nat.zero_le _⟩
  · simp only [byteE, if_neg h0, Prod.mk.injEq] at h
    obtain ⟨rfl, -⟩ := h
    exact ⟨fun _ => rfl, Nat.zero_le _⟩

end Go.Proofs.YtchhdffehkcecaaDoor
