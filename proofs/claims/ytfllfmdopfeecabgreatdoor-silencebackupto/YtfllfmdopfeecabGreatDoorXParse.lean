/-
  How a pattern is read, plainly: the text that is left, and what is like what was read.
-/
import Derived.Test.YtfllfmdopfeecabGreatDoorXLang
namespace Go.Proofs.YtfllfmdopfeecabGreatDoor

/-- The special bytes. -/
def specs : List UInt8 := [40, 41, 91, 93, 124, 42, 43, 63, 46, 92]
def isSpec (c : UInt8) : Bool := specs.contains c

abbrev BSet := UInt8 → Bool
def noneB : BSet := fun _ => false
def addB (T : BSet) (a b : UInt8) : BSet := fun c => T c || (decide (a ≤ c) && decide (c ≤ b))
def notB (T : BSet) : BSet := fun c => !T c

/-- A byte of an item. -/
def pByte (l : List UInt8) : Option (UInt8 × List UInt8) :=
  match l with
  | [] => none
  | c :: l => if c = 93 then none else if c = 92 then (match l with | [] => none | d :: l' => some (d, l')) else some (c, l)

/-- Is a - there that has an item's second byte behind it? -/
def rangeB (l : List UInt8) : Bool :=
  match l with
  | c :: d :: _ => c == 45 && d != 93
  | _ => false

def pItem (T : BSet) (l : List UInt8) : Option (BSet × List UInt8) :=
  match pByte l with
  | none => none
  | some (a, l1) => if rangeB l1 = true then (match pByte (l1.drop 1) with | none => none | some (b, l2) => if b < a then none else some (addB T a b, l2)) else some (addB T a a, l1)

def pItems : Nat → BSet → List UInt8 → Option (BSet × List UInt8)
  | 0, _, _ => none
  | n + 1, T, l => match pItem T l with
    | none => none
    | some (T', l') => if l'.head? = some 93 then some (T', l'.drop 1) else pItems n T' l'

def pSet (l : List UInt8) : Option (BSet × List UInt8) :=
  if l.head? = some 94 then (match pItems l.length noneB (l.drop 1) with | none => none | some (T, l') => some (notB T, l')) else pItems (l.length + 1) noneB l

def pSuf (A : Lang) : List UInt8 → Lang × List UInt8
  | [] => (A, [])
  | c :: l => if c = 42 then pSuf (optL (PlusL A)) l else if c = 43 then pSuf (PlusL A) l else if c = 63 then pSuf (optL A) l else (A, c :: l)

def pAtom (inner : List UInt8 → Option (Lang × List UInt8)) (l : List UInt8) : Option (Lang × List UInt8) :=
  match l with
  | [] => none
  | c :: l => if c = 40 then (match inner l with | none => none | some (A, l') => if l'.head? = some 41 then some (A, l'.drop 1) else none)
    else if c = 91 then (match pSet l with | none => none | some (T, l') => some (setL T, l'))
    else if c = 46 then some (setL (notB noneB), l)
    else if c = 92 then (match l with | [] => none | d :: l' => some (setL (addB noneB d d), l'))
    else if isSpec c = true then none
    else some (setL (addB noneB c c), l)

def pPart (inner : List UInt8 → Option (Lang × List UInt8)) (l : List UInt8) : Option (Lang × List UInt8) :=
  match pAtom inner l with
  | none => none
  | some (A, l') => some (pSuf A l')

/-- Does a row end here? -/
def rowEnd (l : List UInt8) : Bool :=
  match l with
  | [] => true
  | c :: _ => c == 124 || c == 41

def pLoop : Nat → Lang → Lang → List UInt8 → Option (Lang × List UInt8)
  | 0, _, _, _ => none
  | n + 1, R, r, l =>
    if rowEnd l = true then (if l.head? = some 124 then pLoop n (altL R r) epsL (l.drop 1) else some (altL R r, l))
    else match pPart (pLoop n noL epsL) l with
      | none => none
      | some (A, l') => pLoop n R (catL r A) l'

def pParse (l : List UInt8) : Option Lang :=
  match pLoop (l.length + 1) noL epsL l with
  | none => none
  | some (A, l') => if l' = [] then some A else none

/- What is left is less. -/
theorem pByte_len {l l' : List UInt8} {c : UInt8} (h : pByte l = some (c, l')) : l'.length < l.length := by
  unfold pByte at h
  split at h
  · cases h
  · split at h
    · cases h
    · split at h
      · split at h
        · cases h
        · injection h with h; injection h with h1 h2; subst h2; simp only [List.length_cons]; omega
      · injection h with h; injection h with h1 h2; subst h2; simp
theorem pItem_len {T T' : BSet} {l l' : List UInt8} (h : pItem T l = some (T', l')) : l'.length < l.length := by
  unfold pItem at h
  split at h
  · cases h
  · rename_i a l1 h1
    have g1 := pByte_len h1
    split at h
    · split at h
      · cases h
      · rename_i b l2 h2
        have g2 := pByte_len h2
        split at h
        · cases h
        · injection h with h; injection h with h3 h4; subst h4
          simp only [List.length_drop] at g2
          omega
    · injection h with h; injection h with h3 h4; subst h4; exact g1
theorem pItems_len {n : Nat} {T T' : BSet} {l l' : List UInt8} (h : pItems n T l = some (T', l')) : l'.length < l.length := by
  induction n generalizing T l with
  | zero => cases h
  | succ n ih =>
    unfold pItems at h
    split at h
    · cases h
    · rename_i T1 l1 h1
      have g1 := pItem_len h1
      split at h
      · injection h with h; injection h with h3 h4; subst h4
        simp only [List.length_drop]
        omega
      · have := ih h; omega
theorem pSet_len {T : BSet} {l l' : List UInt8} (h : pSet l = some (T, l')) : l'.length < l.length := by
  unfold pSet at h
  split at h
  · split at h
    · cases h
    · rename_i T1 l1 h1
      have g1 := pItems_len h1
      injection h with h; injection h with h3 h4; subst h4
      simp only [List.length_drop] at g1
      omega
  · exact pItems_len h
theorem pSuf_len (A : Lang) (l : List UInt8) : (pSuf A l).2.length ≤ l.length := by
  induction l generalizing A with
  | nil => exact Nat.le_refl _
  | cons c l ih =>
    unfold pSuf
    split
    · have := ih (optL (PlusL A)); simp only [List.length_cons]; omega
    · split
      · have := ih (PlusL A); simp only [List.length_cons]; omega
      · split
        · have := ih (optL A); simp only [List.length_cons]; omega
        · exact Nat.le_refl _
theorem pAtom_len {inner : List UInt8 → Option (Lang × List UInt8)} (hi : ∀ l A l', inner l = some (A, l') → l'.length ≤ l.length) {l l' : List UInt8} {A : Lang} (h : pAtom inner l = some (A, l')) : l'.length < l.length := by
  unfold pAtom at h
  split at h
  · cases h
  · rename_i c l
    split at h
    · split at h
      · cases h
      · rename_i A1 l1 h1
        have := hi _ _ _ h1
        split at h
        · injection h with h; injection h with h3 h4; subst h4
          simp only [List.length_drop, List.length_cons]
          omega
        · cases h
    · split at h
      · split at h
        · cases h
        · rename_i T l1 h1
          have := pSet_len h1
          injection h with h; injection h with h3 h4; subst h4
          simp only [List.length_cons]
          omega
      · split at h
        · injection h with h; injection h with h3 h4; subst h4; simp
        · split at h
          · split at h
            · cases h
            · injection h with h; injection h with h3 h4; subst h4; simp only [List.length_cons]; omega
          · split at h
            · cases h
            · injection h with h; injection h with h3 h4; subst h4; simp
theorem pPart_len {inner : List UInt8 → Option (Lang × List UInt8)} (hi : ∀ l A l', inner l = some (A, l') → l'.length ≤ l.length) {l l' : List UInt8} {A : Lang} (h : pPart inner l = some (A, l')) : l'.length < l.length := by
  unfold pPart at h
  split at h
  · cases h
  · rename_i A1 l1 h1
    have g1 := pAtom_len hi h1
    have g2 := pSuf_len A1 l1
    injection h with h
    rw [h] at g2
    simp only at g2
    omega
theorem pLoop_len {n : Nat} {R r A : Lang} {l l' : List UInt8} (h : pLoop n R r l = some (A, l')) : l'.length ≤ l.length := by
  induction n generalizing R r l A l' with
  | zero => cases h
  | succ n ih =>
    unfold pLoop at h
    split at h
    · split at h
      · have := ih h; simp only [List.length_drop] at this; omega
      · injection h with h; injection h with h3 h4; subst h4; exact Nat.le_refl _
    · split at h
      · cases h
      · rename_i A1 l1 h1
        have g1 := pPart_len (fun l A l' hh => ih hh) h1
        have := ih h
        omega

/- The steps of a row, and of rows. -/
theorem pLoop_part {n : Nat} {R r A : Lang} {l l' : List UInt8} (he : rowEnd l = false) (h : pPart (pLoop n noL epsL) l = some (A, l')) : pLoop (n + 1) R r l = pLoop n R (catL r A) l' := by
  rw [pLoop, he, h]; rfl
theorem pLoop_part_no {n : Nat} {R r : Lang} {l : List UInt8} (he : rowEnd l = false) (h : pPart (pLoop n noL epsL) l = none) : pLoop (n + 1) R r l = none := by
  rw [pLoop, he, h]; rfl
theorem pLoop_bar {n : Nat} {R r : Lang} (l : List UInt8) : pLoop (n + 1) R r (124 :: l) = pLoop n (altL R r) epsL l := by
  rw [pLoop]; rfl
theorem pLoop_end {n : Nat} {R r : Lang} {l : List UInt8} (he : rowEnd l = true) (hb : l.head? ≠ some 124) : pLoop (n + 1) R r l = some (altL R r, l) := by
  rw [pLoop, if_pos he, if_neg hb]

end Go.Proofs.YtfllfmdopfeecabGreatDoor
