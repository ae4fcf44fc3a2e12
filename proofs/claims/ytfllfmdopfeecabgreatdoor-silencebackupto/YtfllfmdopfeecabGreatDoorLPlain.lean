/-
  Labels, plainly: what a name is, which error pairs have, and that names in order make one list.
-/
import Derived.WalkKit
namespace Go.Proofs.YtfllfmdopfeecabGreatDoor

/-- A pair: its name and its value. -/
abbrev Pr := ByteArray × ByteArray
/-- The bytes of a name. -/
abbrev nm (p : Pr) : List UInt8 := p.1.toList

abbrev LetterN (n : Nat) : Prop := n = 95 ∨ (97 ≤ n ∧ n ≤ 122)
abbrev DigitN (n : Nat) : Prop := 48 ≤ n ∧ n ≤ 57

/-- The byte at a place of a text. -/
def byteN (s : ByteArray) (i : Nat) : Nat := if h : i < s.size then s[i].toNat else 0
theorem byteN_of {s : ByteArray} {i : Nat} (h : i < s.size) : byteN s i = s[i].toNat := dif_pos h

abbrev NameOk (s : ByteArray) : Prop := (1 ≤ s.size ∧ s.size ≤ 16) ∧ ¬ DigitN (byteN s 0) ∧ ∀ i, i < s.size → LetterN (byteN s i) ∨ DigitN (byteN s i)

abbrev LongV (p : Pr) : Prop := 64 < p.2.size
abbrev BadP (p : Pr) : Prop := ¬ NameOk p.1 ∨ p.2.size = 0

/-- Which error pairs have, but for their order. -/
def partsE (ps : List Pr) : Int := if 8 < ps.length then 5 else if ∃ p ∈ ps, LongV p then 5 else if ∃ p ∈ ps, BadP p then 6 else 0

/-- Names rise. -/
abbrev Rise (ps : List Pr) : Prop := ps.Pairwise fun a b => nm a < nm b

/-- Check's answer. -/
def checkE (ps : List Pr) : Int := if partsE ps ≠ 0 then partsE ps else if Rise ps then 0 else 4

/-- No name is there twice. -/
abbrev Once (ps : List Pr) : Prop := (ps.map nm).Nodup

/-- Sort's error. -/
def sortE (ps : List Pr) : Int := if partsE ps ≠ 0 then partsE ps else if Once ps then 0 else 7

theorem nm_trans {a b c : List UInt8} (h : a < b) (k : b < c) : a < c := List.lt_trans h k
theorem nm_irrefl (a : List UInt8) : ¬ a < a := List.lt_irrefl a
theorem nm_tri {a b : List UInt8} (h : ¬ a < b) (hn : ¬ b < a) : a = b := List.le_antisymm (by simpa using hn) (by simpa using h)

theorem less_eq : ∀ (x y : List UInt8), Op.bytesLess x y = decide (x < y)
  | _, [] => by simp [Op.bytesLess]
  | [], _ :: _ => by simp [Op.bytesLess]
  | a :: x, b :: y => by
    rw [Op.bytesLess, less_eq x y]
    simp only [List.cons_lt_cons_iff, Bool.decide_or, Bool.decide_and]
    rfl

/-- Neighbours tell all. -/
theorem rise_of_next : ∀ (ps : List Pr), (∀ i (h : i + 1 < ps.length), nm ps[i] < nm ps[i + 1]) → Rise ps
  | [], _ => List.Pairwise.nil
  | [a], _ => List.pairwise_singleton _ a
  | a :: b :: r, h => by
    have hr : Rise (b :: r) := rise_of_next (b :: r) fun i hi => h (i + 1) (Nat.succ_lt_succ hi)
    have hab : nm a < nm b := by simpa using h 0 (by simp)
    refine List.Pairwise.cons (fun x hx => ?_) hr
    rcases List.mem_cons.1 hx with rfl | hx
    · exact hab
    · exact nm_trans hab ((List.pairwise_cons.1 hr).1 x hx)
theorem rise_next {ps : List Pr} (h : Rise ps) (i : Nat) (hi : i + 1 < ps.length) : nm ps[i] < nm ps[i + 1] := List.pairwise_iff_getElem.1 h i (i + 1) (by omega) hi (by omega)
theorem rise_once {ps : List Pr} (h : Rise ps) : Once ps := by
  unfold Once List.Nodup
  rw [List.pairwise_map]
  exact List.Pairwise.imp (fun {a b} (hab : nm a < nm b) (e : nm a = nm b) => nm_irrefl (nm b) (e ▸ hab)) h

/-- Rising lists of the same pairs are one. -/
theorem rise_eq : ∀ {xs ys : List Pr}, xs.Perm ys → Rise xs → Rise ys → xs = ys
  | [], ys, hp, _, _ => by rw [List.nil_perm.1 hp]
  | x :: xs, [], hp, _, _ => by simp at hp
  | x :: xs, y :: ys, hp, hx, hy => by
    obtain ⟨hx1, hx2⟩ := List.pairwise_cons.1 hx
    obtain ⟨hy1, hy2⟩ := List.pairwise_cons.1 hy
    have hxy : x = y := by
      have hxm : x ∈ y :: ys := hp.subset (List.mem_cons_self ..)
      have hym : y ∈ x :: xs := hp.symm.subset (List.mem_cons_self ..)
      rcases List.mem_cons.1 hxm with h | h
      · exact h
      · rcases List.mem_cons.1 hym with k | k
        · exact k.symm
        · exact absurd (nm_trans (hy1 x h) (hx1 y k)) (nm_irrefl _)
    subst hxy
    rw [rise_eq (List.perm_cons x |>.1 hp) hx2 hy2]

theorem once_perm {xs ys : List Pr} (h : xs.Perm ys) : Once xs ↔ Once ys := (h.map nm).nodup_iff
theorem any_perm {xs ys : List Pr} (h : xs.Perm ys) (q : Pr → Prop) : (∃ p ∈ xs, q p) ↔ ∃ p ∈ ys, q p :=
  ⟨fun ⟨p, hp, hq⟩ => ⟨p, h.mem_iff.1 hp, hq⟩, fun ⟨p, hp, hq⟩ => ⟨p, h.mem_iff.2 hp, hq⟩⟩
theorem partsE_perm {xs ys : List Pr} (h : xs.Perm ys) : partsE xs = partsE ys := by
  unfold partsE
  rw [h.length_eq]
  simp only [any_perm h]
theorem sortE_perm {xs ys : List Pr} (h : xs.Perm ys) : sortE xs = sortE ys := by
  unfold sortE
  rw [partsE_perm h]
  simp only [once_perm h]

/-- What does not fall and has no name twice rises. -/
theorem rise_of_up {ps : List Pr} (h : ps.Pairwise fun a b => ¬ nm b < nm a) (ho : Once ps) : Rise ps := by
  unfold Once List.Nodup at ho
  rw [List.pairwise_map] at ho
  refine (List.Pairwise.and h ho).imp fun {a b} hab => ?_
  by_cases hlt : nm a < nm b
  · exact hlt
  · exact absurd (nm_tri hlt hab.1) hab.2

/-- The first pair of a name. -/
def getV (ps : List Pr) (n : List UInt8) : ByteArray := match ps.find? fun p => nm p == n with | some p => p.2 | none => ⟨#[]⟩

theorem getV_of_once {ps : List Pr} (h : Once ps) {p : Pr} (hp : p ∈ ps) : getV ps (nm p) = p.2 := by
  unfold getV
  induction ps with
  | nil => cases hp
  | cons a r ih =>
    rw [List.find?_cons]
    unfold Once at h
    rw [List.map_cons, List.nodup_cons] at h
    rcases List.mem_cons.1 hp with rfl | hr
    · simp
    · have hne : nm a ≠ nm p := fun e => h.1 (e ▸ List.mem_map_of_mem hr)
      simp only [beq_eq_false_iff_ne.2 hne]
      exact ih h.2 hr

end Go.Proofs.YtfllfmdopfeecabGreatDoor
