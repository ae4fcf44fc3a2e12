/-
  Read of a key: of pairs that may be, of others. The walk of LabelBack.
-/
import Derived.Test.YtpjmfembpckohaaGreatDoorLRead
import Derived.Test.YtpjmfembpckohaaGreatDoorLAwake
namespace Go.Proofs.YtpjmfembpckohaaGreatDoor
open Go.RowKit

theorem VarsOk.up {B B' : Nat} {w : World} (h : VarsOk B w) (hB : B ≤ B') : VarsOk B' w := fun w' hb => h w' (hb.mono hB)

theorem Read_yes (s : ByteArray) (w : World) (hs : s.size ≤ 1099511627776) (hv : VarsOk w.heap.size w) (ps : List Pr) (hc : checkE ps = 0) (hk : s.data.toList = keyL ps) :
    Calls Tryz.prog 4 #[.string s] w fun e w' => ∃ a c, e = .returned (.tuple #[.slice a ps.length c, .int .i64 0]) ∧ OwnP w' w.heap.size (.slice a ps.length c) ps ∧ Below w.heap.size w w' := by
  refine (Read_any s w hs hv).mono ?_
  rintro e w' ⟨⟨a, c, qs, he, ho, hq, hk2⟩ | ⟨-, hno⟩, hb⟩
  · obtain rfl : qs = ps := keyL_inj (check_fits hq) (check_fits hc) (hk2.symm.trans hk)
    exact ⟨a, c, he, ho, hb⟩
  · exact absurd hk (hno ps hc)

theorem Read_no (s : ByteArray) (w : World) (hs : s.size ≤ 1099511627776) (hv : VarsOk w.heap.size w) (hno : ∀ qs, checkE qs = 0 → s.data.toList ≠ keyL qs) :
    Calls Tryz.prog 4 #[.string s] w fun e w' => e = .returned (.tuple #[.slice none 0 0, .int .i64 4]) ∧ Below w.heap.size w w' := by
  refine (Read_any s w hs hv).mono ?_
  rintro e w' ⟨⟨a, c, qs, he, ho, hq, hk2⟩ | ⟨he, -⟩, hb⟩
  · exact absurd hk2 (hno qs hq)
  · exact ⟨he, hb⟩

theorem keyL_len (ps : List Pr) : (keyL ps).length = (partsK ps).flatten.length + 2 := by
  rw [keyL_tail]; simp [tailK]
theorem check_len {ps : List Pr} (h : checkE ps = 0) : ps.length ≤ 8 := by
  unfold checkE at h
  split at h
  · rename_i hne; exact absurd h hne
  · rename_i hne; exact partsE_zero (Classical.not_not.1 hne)
theorem flat_le : ∀ (ps : List Pr), (∀ p ∈ ps, p.1.size ≤ 64 ∧ p.2.size ≤ 64) → (partsK ps).flatten.length ≤ ps.length * 172
  | [], _ => by simp [partsK]
  | p :: ps, h => by
    have ih := flat_le ps fun x hx => h x (List.mem_cons_of_mem _ hx)
    have hp := h p (List.mem_cons_self ..)
    have h1 := putText_len' p.1.data.toList (show p.1.size ≤ _ by omega)
    have h2 := putText_len' p.2.data.toList (show p.2.size ≤ _ by omega)
    have e1 : p.1.data.toList.length = p.1.size := rfl
    have e2 : p.2.data.toList.length = p.2.size := rfl
    have e : (partsK (p :: ps)).flatten = putText p.1.data.toList ++ (putText p.2.data.toList ++ (partsK ps).flatten) := by simp [partsK]
    rw [e]
    simp only [List.length_append, List.length_cons]
    omega

/-- Key of pairs that may be. -/
theorem Key_ok (a : Option Addr) (c : Nat) (ps : List Pr) (B : Nat) (w : World) (h : PairsAt w a ps) (hc : checkE ps = 0) (hB : B ≤ w.heap.size) (hv : TabOk B w) (n : Nat) (hn : n = ps.length) :
    Calls Tryz.prog 6 #[.slice a n c] w fun e w' => e = .returned (.string ⟨(keyL ps).toArray⟩) ∧ Below w.heap.size w w' := by
  have h8 := check_len hc
  have hf := check_fit hc
  have hl := flat_le ps fun p hp => by have := hf p hp; omega
  exact Key_any a c ps B w h (by omega) (fun p hp => by have := hf p hp; omega) (by omega) hB hv n hn

theorem str_bytes {s : ByteArray} {l : List UInt8} (h : s.data.toList = l) : (⟨l.toArray⟩ : ByteArray) = s := by
  subst h
  rfl

end Go.Proofs.YtpjmfembpckohaaGreatDoor
