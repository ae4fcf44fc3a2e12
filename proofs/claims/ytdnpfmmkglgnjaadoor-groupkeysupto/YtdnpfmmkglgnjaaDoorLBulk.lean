/-
  How much pairs hold, where the arguments hold together at most 1048576 values and letters.
-/
import Derived.Test.YtdnpfmmkglgnjaaDoorBulk
import Derived.Test.YtdnpfmmkglgnjaaDoorLOpen2
import Derived.Test.YtdnpfmmkglgnjaaDoorLRPlain
namespace Go.Proofs.YtdnpfmmkglgnjaaDoor
open Go.ChangeShapes Go.WideShapes Go.ChangeAt Go.RowKit Go.Deep

/-- The letters of pairs. -/
def lettersP : List Pr → Nat
  | [] => 0
  | p :: ps => p.1.size + p.2.size + lettersP ps

theorem bulk_pairs {H : Type} : ∀ (ps : List Pr), lettersP ps + ps.length ≤ Rows.uptoBulkAll (ps.map fun p => (.agg [.lit (.string p.1.data.toList), .lit (.string p.2.data.toList)] : DataW H))
  | [] => by simp [lettersP]
  | p :: ps => by
    have ih := bulk_pairs (H := H) ps
    have h1 : p.1.data.toList.length = p.1.size := rfl
    have h2 : p.2.data.toList.length = p.2.size := rfl
    simp only [lettersP, List.map_cons, Rows.uptoBulkAll, Rows.uptoBulk, List.length_cons] at ih ⊢
    omega
theorem letters_mem : ∀ {ps : List Pr} {p : Pr}, p ∈ ps → p.1.size ≤ lettersP ps ∧ p.2.size ≤ lettersP ps
  | x :: ps, p, h => by
    simp only [lettersP]
    rcases List.mem_cons.1 h with rfl | h
    · omega
    · have := letters_mem h
      omega
theorem flat_letters : ∀ (ps : List Pr), lettersP ps ≤ 1048576 → (partsK ps).flatten.length ≤ lettersP ps + 44 * ps.length
  | [], _ => by simp [partsK]
  | p :: ps, h => by
    simp only [lettersP] at h
    have ih := flat_letters ps (by omega)
    have h1 := putText_len' p.1.data.toList (show p.1.size ≤ _ by omega)
    have h2 := putText_len' p.2.data.toList (show p.2.size ≤ _ by omega)
    have e1 : p.1.data.toList.length = p.1.size := rfl
    have e2 : p.2.data.toList.length = p.2.size := rfl
    have e : (partsK (p :: ps)).flatten = putText p.1.data.toList ++ (putText p.2.data.toList ++ (partsK ps).flatten) := by simp [partsK]
    rw [e]
    simp only [List.length_append, List.length_cons, lettersP]
    omega
theorem small_pairs {H : Type} {ds : List (DataW H)} (h : Rows.uptoBulkAll ds ≤ 1048576) {d : DataW H} (hm : d ∈ ds) {ps : List Pr}
    (hd : d = .nil ∧ ps = [] ∨ ∃ spare, d = .slice (ps.map fun p => .agg [.lit (.string p.1.data.toList), .lit (.string p.2.data.toList)]) spare) :
    ps.length ≤ 1048576 ∧ (∀ p ∈ ps, p.1.size ≤ 1048576 ∧ p.2.size ≤ 1048576) ∧ (partsK ps).flatten.length ≤ 100000000 := by
  have hb : lettersP ps + ps.length ≤ 1048576 := by
    rcases hd with ⟨_, rfl⟩ | ⟨spare, rfl⟩
    · simp [lettersP]
    · have h1 := bulk_mem hm
      have h2 := bulk_slice (ps.map fun p => (.agg [.lit (.string p.1.data.toList), .lit (.string p.2.data.toList)] : DataW H)) spare
      have h3 := bulk_pairs (H := H) ps
      omega
  refine ⟨by omega, fun p hp => ?_, ?_⟩
  · have := letters_mem hp
    omega
  · have := flat_letters ps (by omega)
    omega

end Go.Proofs.YtdnpfmmkglgnjaaDoor
