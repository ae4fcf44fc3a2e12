/-
  A key that is read, plainly: keys of unlike pairs are unlike; what the rounds of Read keep. DERIVED: THE SHELF's CONTRACTS AT THIS DUMP, IN PLAIN WORDS (tools/lay-plain.mjs out of 'YtmanjegdgjeeiaaGreatDoorLShelfRaw.lean', which tools/lay-shelf.mjs wrote): THE SAME DECLARATIONS UNDER THE SAME NAMES: 'import', 'namespace', 'open', 'def', 'theorem' AND NOTHING ELSE: no command of the shelf's: FOR A HAND-IN. Each laying: the table of numbers ('.._ren') and one theorem, a field a fact of the dump's own or the kernel's comparison; each contract: ONE APPLICATION. Pairs in memory of a call's own; what slices.Clone, SortFunc and Equal do at them.
-/
import Derived.Test.YtmanjegdgjeeiaaGreatDoorKW05
import Derived.Test.YtmanjegdgjeeiaaGreatDoorKW06
import Derived.Shelf.Small.Strs
import Derived.Ground.NamesProg
import Derived.Shelf.Small.Bits
import Derived.Shelf.Slices.Turned
import Derived.Shelf.SlicesE.Clone
import Derived.Shelf.SlGeneric
import Derived.Ground.SlgnProg
import Derived.Shelf.SlicesQ.Equal
import Derived.Ground.SlgqProg
import Derived.Test.YtmanjegdgjeeiaaGreatDoorProg
import Derived.Laws.StructEq
namespace Go.Proofs.YtmanjegdgjeeiaaGreatDoor
open Go.RowKit

theorem bytes_of {x y : ByteArray} (h : x.data.toList = y.data.toList) : x = y := Go.WideShapes.bytes_inj h

theorem putText_len' (s : List UInt8) (h : s.length ≤ 140737488351232) : (putText s).length ≤ s.length + 22 := by
  have := itoa_len20 s.length (by omega) (by omega)
  simp [putText]; omega

/-- The bytes of a key behind its first one. -/
def tailK (ps : List Pr) : List UInt8 := (partsK ps).flatten ++ [101]
theorem keyL_tail (ps : List Pr) : keyL ps = 108 :: tailK ps := by simp [keyL, putList, tailK]
theorem tailK_nil : tailK [] = [101] := rfl
theorem tailK_cons (p : Pr) (ps : List Pr) : tailK (p :: ps) = putText p.1.data.toList ++ (putText p.2.data.toList ++ tailK ps) := by
  simp [tailK, partsK]
theorem partsK_snoc (ps : List Pr) (p : Pr) : (partsK (ps ++ [p])).flatten = (partsK ps).flatten ++ (putText p.1.data.toList ++ putText p.2.data.toList) := by
  simp [partsK]

theorem putText_head (s r : List UInt8) : ∃ x l, putText s ++ r = x :: l ∧ 48 ≤ x.toNat ∧ x.toNat ≤ 57 := by
  unfold putText
  have hi : Lib.itoa (s.length : Int) = Lib.decDigits s.length := by unfold Lib.itoa; rw [if_neg (by omega), Int.toNat_natCast]
  rw [hi]
  have hd := dec_digits s.length
  have hn := dec_ne s.length
  cases hx : Lib.decDigits s.length with
  | nil => exact absurd hx hn
  | cons x d =>
    rw [hx] at hd
    have := hd x (List.mem_cons_self ..)
    exact ⟨x, _, rfl, this.1, this.2⟩
theorem moreB_text (s r : List UInt8) : moreB (putText s ++ r) = true := by
  obtain ⟨x, l, e, h1, h2⟩ := putText_head s r
  rw [e]
  unfold moreB
  simp
  omega
theorem moreB_tail (p : Pr) (ps : List Pr) : moreB (tailK (p :: ps)) = true := by rw [tailK_cons]; exact moreB_text _ _
theorem moreB_end : moreB (tailK []) = false := rfl

theorem putText_split {s t x y : List UInt8} (hs : s.length ≤ 1000000000) (ht : t.length ≤ 1000000000) (h : putText s ++ x = putText t ++ y) : s = t ∧ x = y := by
  have h1 := read_putText s hs 1000000000 (by omega) x
  have h2 := read_putText t ht 1000000000 (by omega) y
  rw [h, h2] at h1
  simp only [Prod.mk.injEq, true_and] at h1
  exact ⟨h1.2.symm, h1.1.symm⟩

/-- Pairs of which no text is too long. -/
def Fit (ps : List Pr) : Prop := ∀ p ∈ ps, p.1.size ≤ 1000000000 ∧ p.2.size ≤ 1000000000
theorem tailK_inj : ∀ (ps qs : List Pr), Fit ps → Fit qs → tailK ps = tailK qs → ps = qs
  | [], [], _, _, _ => rfl
  | [], q :: qs, _, _, h => by
    have := moreB_tail q qs
    rw [← h, moreB_end] at this
    cases this
  | p :: ps, [], _, _, h => by
    have := moreB_tail p ps
    rw [h, moreB_end] at this
    cases this
  | p :: ps, q :: qs, hp, hq, h => by
    rw [tailK_cons, tailK_cons] at h
    have hp1 := hp p (List.mem_cons_self ..)
    have hq1 := hq q (List.mem_cons_self ..)
    obtain ⟨e1, h⟩ := putText_split hp1.1 hq1.1 h
    obtain ⟨e2, h⟩ := putText_split hp1.2 hq1.2 h
    have ih := tailK_inj ps qs (fun x hx => hp x (List.mem_cons_of_mem _ hx)) (fun x hx => hq x (List.mem_cons_of_mem _ hx)) h
    rw [ih, show p = q from Prod.ext (bytes_of e1) (bytes_of e2)]
theorem keyL_inj {ps qs : List Pr} (hp : Fit ps) (hq : Fit qs) (h : keyL ps = keyL qs) : ps = qs := by
  rw [keyL_tail, keyL_tail, List.cons.injEq] at h
  exact tailK_inj ps qs hp hq h.2

/-- Pairs that may be are short. -/
theorem check_fit {ps : List Pr} (h : checkE ps = 0) : ∀ p ∈ ps, p.1.size ≤ 16 ∧ p.2.size ≤ 64 := fun p hp => by
  have h0 : partsE ps = 0 := by
    unfold checkE at h
    split at h
    · rename_i hne; exact absurd h hne
    · rename_i hne; exact Classical.not_not.1 hne
  unfold partsE at h0
  split at h0
  · omega
  · split at h0
    · omega
    · rename_i hL
      split at h0
      · omega
      · rename_i hB
        refine ⟨?_, ?_⟩
        · by_cases hn : NameOk p.1
          · exact hn.1.2
          · exact absurd ⟨p, hp, .inl hn⟩ hB
        · by_cases hl : LongV p
          · exact absurd ⟨p, hp, hl⟩ hL
          · unfold LongV at hl; omega
theorem check_fits {ps : List Pr} (h : checkE ps = 0) : Fit ps := fun p hp => by have := check_fit h p hp; omega

theorem rdText_left {l r s : List UInt8} {e most : Int} (h : rdText most l = (r, e, s)) (he : e ≠ 0) : r = [] := by
  cases l with
  | nil => simp [rdText] at h; exact h.1
  | cons x l =>
    simp only [rdText] at h
    split at h
    · simp at h; exact h.1
    · split at h
      · split at h <;> (simp at h; exact h.1)
      · split at h
        · simp at h; exact h.1
        · split at h
          · simp at h; exact h.1
          · split at h
            · simp at h; exact h.1
            · split at h
              · simp at h; exact h.1
              · simp only [Prod.mk.injEq] at h; exact absurd h.2.1.symm he
/-- A text that is read leaves less. -/
theorem rdText_less {l r s : List UInt8} {e most : Int} (h : rdText most l = (r, e, s)) (hl : 0 < l.length) : r.length < l.length := by
  by_cases he : e = 0
  · subst he
    rw [rdText_laid h]
    simp [putText]
    omega
  · rw [rdText_left h he]
    exact hl
theorem rdText_le {l r s : List UInt8} {e most : Int} (h : rdText most l = (r, e, s)) : r.length ≤ l.length := by
  by_cases hl : 0 < l.length
  · exact Nat.le_of_lt (rdText_less h hl)
  · obtain rfl := List.eq_nil_of_length_eq_zero (show l.length = 0 by omega)
    simp [rdText] at h
    rw [← h.1]
    exact Nat.le_refl _
theorem moreB_pos {l : List UInt8} (h : moreB l = true) : 0 < l.length := by
  cases l with
  | nil => cases h
  | cons x l => simp

/-- What the rounds of Read keep: what is left, the error, the pairs so far. -/
structure Inv (key l : List UInt8) (e : Int) (ps : List Pr) : Prop where
  laid : e = 0 → key = 108 :: ((partsK ps).flatten ++ l)
  next : ∀ qs, key = keyL qs → checkE qs = 0 → e = 0 ∧ ∃ rs, qs = ps ++ rs ∧ l = tailK rs
  many : ps.length ≤ key.length + (if e = 0 then 0 else 1)

theorem inv_open (key : List UInt8) : Inv key (rdByte 108 key).1 (rdByte 108 key).2 [] := by
  refine ⟨fun h => ?_, fun qs hk _ => ?_, Nat.zero_le _⟩
  · cases key with
    | nil => simp [rdByte] at h
    | cons x l =>
      by_cases hx : x = 108
      · subst hx; simp [rdByte, partsK]
      · simp [rdByte, hx] at h
  · rw [hk, keyL_tail]
    exact ⟨rfl, qs, rfl, rfl⟩

theorem flat_len : ∀ ps : List Pr, ps.length ≤ (partsK ps).flatten.length
  | [] => Nat.zero_le _
  | p :: ps => by
    have := flat_len ps
    have e : (partsK (p :: ps)).flatten = putText p.1.data.toList ++ (putText p.2.data.toList ++ (partsK ps).flatten) := by simp [partsK]
    rw [e]
    simp only [List.length_append, List.length_cons, putText]
    omega

/-- A round: a name and a value. -/
theorem inv_round {key l l1 l2 s1 s2 : List UInt8} {e1 e2 : Int} {ps : List Pr} (h : Inv key l 0 ps) (hm : moreB l = true) (h1 : rdText 16 l = (l1, e1, s1)) (he1 : e1 = 0) (h2 : rdText 64 l1 = (l2, e2, s2)) :
    Inv key l2 e2 (ps ++ [(⟨s1.toArray⟩, ⟨s2.toArray⟩)]) := by
  subst he1
  have hl1 := rdText_laid h1
  have hlaid := h.laid rfl
  have hlen := flat_len ps
  refine ⟨fun he => ?_, fun qs hk hc => ?_, ?_⟩
  · subst he
    have hl2 := rdText_laid h2
    rw [hlaid, partsK_snoc, hl1, hl2]
    simp
  · obtain ⟨-, rs, rfl, hl⟩ := h.next qs hk hc
    cases rs with
    | nil => rw [hl, moreB_end] at hm; cases hm
    | cons q rs =>
      have hq := check_fit hc q (by simp)
      rw [tailK_cons] at hl
      have r1 := read_putText q.1.data.toList (show q.1.size ≤ _ by omega) 16 (show ((q.1.size : Nat) : Int) ≤ 16 by omega) (putText q.2.data.toList ++ tailK rs)
      rw [← hl, h1] at r1
      simp only [Prod.mk.injEq, true_and] at r1
      obtain ⟨rfl, rfl⟩ := r1
      have r2 := read_putText q.2.data.toList (show q.2.size ≤ _ by omega) 64 (show ((q.2.size : Nat) : Int) ≤ 64 by omega) (tailK rs)
      rw [h2] at r2
      simp only [Prod.mk.injEq] at r2
      obtain ⟨rfl, rfl, rfl⟩ := r2
      exact ⟨rfl, rs, by simp, rfl⟩
  · have hk : key.length = 1 + ((partsK ps).flatten.length + l.length) := by rw [hlaid]; simp; omega
    simp only [List.length_append, List.length_singleton]
    omega

theorem inv_bad {key l l1 s1 : List UInt8} {e1 : Int} {ps : List Pr} (h : Inv key l 0 ps) (hm : moreB l = true) (h1 : rdText 16 l = (l1, e1, s1)) (he1 : e1 ≠ 0) : Inv key l1 e1 (ps ++ [(⟨s1.toArray⟩, ⟨#[]⟩)]) := by
  refine ⟨fun he => absurd he he1, fun qs hk hc => ?_, ?_⟩
  · obtain ⟨-, rs, rfl, hl⟩ := h.next qs hk hc
    cases rs with
    | nil => rw [hl, moreB_end] at hm; cases hm
    | cons q rs =>
      have hq := check_fit hc q (by simp)
      rw [tailK_cons] at hl
      have r1 := read_putText q.1.data.toList (show q.1.size ≤ _ by omega) 16 (show ((q.1.size : Nat) : Int) ≤ 16 by omega) (putText q.2.data.toList ++ tailK rs)
      rw [← hl, h1] at r1
      simp only [Prod.mk.injEq] at r1
      exact absurd r1.2.1 he1
  · have := h.many
    rw [if_neg he1]
    simp only [if_pos, List.length_append, List.length_singleton] at this ⊢
    omega

/-- The end: the key of pairs that may be, or of none. -/
theorem inv_yes {key l : List UInt8} {ps : List Pr} (h : Inv key (101 :: l) 0 ps) (hl : l = []) : key = keyL ps := by
  subst hl
  rw [h.laid rfl]
  simp [keyL, putList]
theorem inv_err {key l : List UInt8} {e : Int} {ps : List Pr} (h : Inv key l e ps) (he : e ≠ 0) : ∀ qs, checkE qs = 0 → key ≠ keyL qs := fun qs hc hk => he (h.next qs hk hc).1
theorem inv_cut {key : List UInt8} {ps : List Pr} (h : Inv key [] 0 ps) : ∀ qs, checkE qs = 0 → key ≠ keyL qs := fun qs hc hk => by
  obtain ⟨-, rs, -, hl⟩ := h.next qs hk hc
  simp [tailK] at hl
theorem inv_last {key l : List UInt8} {ps : List Pr} (h : Inv key (101 :: l) 0 ps) : ∀ qs, checkE qs = 0 → key = keyL qs → qs = ps ∧ l = [] := fun qs hc hk => by
  obtain ⟨-, rs, rfl, hl⟩ := h.next qs hk hc
  cases rs with
  | nil => exact ⟨by simp, by simpa [tailK, partsK] using hl⟩
  | cons q rs =>
    have := moreB_tail q rs
    rw [← hl] at this
    simp [moreB] at this

end Go.Proofs.YtmanjegdgjeeiaaGreatDoor
namespace Go.Proofs
open Go.Shelf
def Tryz.lCompare_ren : Go.Shelf.Ren := ⟨fun | 106 => 28 | 213 => 64 | 265 => 98 | n => n, fun | 9 => 9 | 3 => 3 | n => n, fun | n => n⟩
theorem Tryz.lCompare : Go.Proofs.Lays.n106 Tryz.prog Tryz.lCompare_ren := {
  mixed := by kernel_rfl
  f106 := Tryz.func28.trans (congrArg some (by kernel_rfl))
  f213 := Tryz.func64.trans (congrArg some (by kernel_rfl))
  f265 := Tryz.func98.trans (congrArg some (by kernel_rfl))
  t3 := Tryz.underlying3
  a3 := Tryz.isAgg3
  z3 := Tryz.sizeOf3
  v3 := Tryz.zeroValue3
  t9 := Tryz.underlying9
  a9 := Tryz.isAgg9
  z9 := Tryz.sizeOf9
  v9 := Tryz.zeroValue9 }
def Tryz.lBitsLen_ren : Go.Shelf.Ren := ⟨fun | 125 => 62 | 128 => 96 | 129 => 97 | n => n, fun | 46 => 106 | 3 => 3 | 51 => 140 | 53 => 142 | 4 => 4 | 5 => 5 | 9 => 9 | n => n, fun | n => n⟩
theorem Tryz.lBitsLen : Go.Proofs.Lays.n125 Tryz.prog Tryz.lBitsLen_ren := {
  mixed := by kernel_rfl
  f125 := Tryz.func62.trans (congrArg some (by kernel_rfl))
  f128 := Tryz.func96.trans (congrArg some (by kernel_rfl))
  f129 := Tryz.func97.trans (congrArg some (by kernel_rfl))
  t3 := Tryz.underlying3
  a3 := Tryz.isAgg3
  z3 := Tryz.sizeOf3
  v3 := Tryz.zeroValue3
  t4 := Tryz.underlying4
  a4 := Tryz.isAgg4
  z4 := Tryz.sizeOf4
  v4 := Tryz.zeroValue4
  t5 := Tryz.underlying5
  a5 := Tryz.isAgg5
  z5 := Tryz.sizeOf5
  v5 := Tryz.zeroValue5
  t9 := Tryz.underlying9
  a9 := Tryz.isAgg9
  z9 := Tryz.sizeOf9
  v9 := Tryz.zeroValue9
  t46 := Tryz.underlying106
  a46 := Tryz.isAgg106
  z46 := Tryz.sizeOf106
  v46 := Tryz.zeroValue106
  t51 := Tryz.underlying140
  a51 := Tryz.isAgg140
  z51 := Tryz.sizeOf140
  v51 := Tryz.zeroValue140
  t53 := Tryz.underlying142
  a53 := Tryz.isAgg142
  z53 := Tryz.sizeOf142
  v53 := Tryz.zeroValue142 }
def Tryz.lContains_ren : Go.Shelf.Ren := ⟨fun | 110 => 46 | 109 => 81 | n => n, fun | 31 => 49 | 9 => 9 | 4 => 4 | 3 => 3 | 0 => 0 | n => n, fun | n => n⟩
theorem Tryz.lContains : Go.Proofs.Lays.n110 Tryz.prog Tryz.lContains_ren := {
  mixed := by kernel_rfl
  f109 := Tryz.func81.trans (congrArg some (by kernel_rfl))
  f110 := Tryz.func46.trans (congrArg some (by kernel_rfl))
  t0 := Tryz.underlying0
  a0 := Tryz.isAgg0
  z0 := Tryz.sizeOf0
  v0 := Tryz.zeroValue0
  t3 := Tryz.underlying3
  a3 := Tryz.isAgg3
  z3 := Tryz.sizeOf3
  v3 := Tryz.zeroValue3
  t4 := Tryz.underlying4
  a4 := Tryz.isAgg4
  z4 := Tryz.sizeOf4
  v4 := Tryz.zeroValue4
  t9 := Tryz.underlying9
  a9 := Tryz.isAgg9
  z9 := Tryz.sizeOf9
  v9 := Tryz.zeroValue9
  t31 := Tryz.underlying49
  a31 := Tryz.isAgg49
  z31 := Tryz.sizeOf49
  v31 := Tryz.zeroValue49 }
def Tryz.lClone_ren : Go.Shelf.Ren := ⟨fun | 41 => 60 | n => n, fun | 22 => 40 | 23 => 57 | 4 => 4 | n => n, fun | n => n⟩
theorem Tryz.lClone : Go.Proofs.SlLaysE0.n41 Tryz.prog Tryz.lClone_ren := {
  mixed := by kernel_rfl
  f41 := ⟨Tryz.f60.name, by decide, Tryz.func60.trans (congrArg some (by kernel_rfl))⟩
  t4 := Tryz.underlying4
  a4 := Tryz.isAgg4
  z4 := Tryz.sizeOf4
  v4 := Tryz.zeroValue4
  t22 := Tryz.underlying40
  a22 := Tryz.isAgg40
  z22 := Tryz.sizeOf40
  v22 := Tryz.zeroValue40 }
def Tryz.lEqual_ren : Go.Shelf.Ren := ⟨fun | 8 => 45 | n => n, fun | 22 => 40 | 24 => 57 | 4 => 4 | 3 => 3 | 0 => 0 | n => n, fun | n => n⟩
theorem Tryz.lEqual : Go.Proofs.SlLaysQ.n8 Tryz.prog Tryz.lEqual_ren := {
  mixed := by kernel_rfl
  f8 := ⟨Tryz.f45.name, by decide, Tryz.func45.trans (congrArg some (by kernel_rfl))⟩
  t0 := Tryz.underlying0
  a0 := Tryz.isAgg0
  z0 := Tryz.sizeOf0
  v0 := Tryz.zeroValue0
  t3 := Tryz.underlying3
  a3 := Tryz.isAgg3
  z3 := Tryz.sizeOf3
  v3 := Tryz.zeroValue3
  t4 := Tryz.underlying4
  a4 := Tryz.isAgg4
  z4 := Tryz.sizeOf4
  v4 := Tryz.zeroValue4
  t22 := Tryz.underlying40
  a22 := Tryz.isAgg40
  z22 := Tryz.sizeOf40
  v22 := Tryz.zeroValue40 }
end Go.Proofs
namespace Go.Proofs.YtmanjegdgjeeiaaGreatDoor
open Go.RowKit

/-- A pair's two cells. -/
def encP (x : Pr) : List Value := [.string x.1, .string x.2]
def cellsP (ps : List Pr) : List Value := ps.flatMap encP

theorem cellsP_len : ∀ ps : List Pr, (cellsP ps).length = ps.length * 2
  | [] => rfl
  | p :: r => by
    have := cellsP_len r
    simp only [cellsP, List.flatMap_cons, List.length_append, List.length_cons] at *
    rw [this]
    simp [encP]
    omega
theorem cellsP_append (ps qs : List Pr) : cellsP (ps ++ qs) = cellsP ps ++ cellsP qs := List.flatMap_append
theorem cellsP_get : ∀ (ps : List Pr) (i : Nat) (hi : i < ps.length), (cellsP ps)[i * 2]? = some (.string ps[i].1) ∧ (cellsP ps)[i * 2 + 1]? = some (.string ps[i].2)
  | p :: r, 0, _ => ⟨rfl, rfl⟩
  | p :: r, i + 1, hi => by
    have := cellsP_get r i (by simpa using hi)
    have e : cellsP (p :: r) = [.string p.1, .string p.2] ++ cellsP r := rfl
    rw [e, List.getElem?_append_right (by simp; omega), List.getElem?_append_right (by simp; omega)]
    simpa [show (i + 1) * 2 - 2 = i * 2 by omega, show (i + 1) * 2 + 1 - 2 = i * 2 + 1 by omega] using this
theorem cellsP_at (ps : List Pr) (j : Nat) (u : Value) (h : (cellsP ps)[j]? = some u) : ∃ i, ∃ hi : i < ps.length, (j = i * 2 ∧ u = .string ps[i].1) ∨ (j = i * 2 + 1 ∧ u = .string ps[i].2) := by
  have hj : j < ps.length * 2 := by
    have := (List.getElem?_eq_some_iff.1 h).1
    rwa [cellsP_len] at this
  obtain ⟨i, hi⟩ : ∃ i, j = i * 2 ∨ j = i * 2 + 1 := ⟨j / 2, by omega⟩
  have hi' : i < ps.length := by omega
  obtain ⟨h0, h1⟩ := cellsP_get ps i hi'
  refine ⟨i, hi', ?_⟩
  rcases hi with rfl | rfl
  · exact .inl ⟨rfl, (Option.some.inj (h0.symm.trans h)).symm⟩
  · exact .inr ⟨rfl, (Option.some.inj (h1.symm.trans h)).symm⟩
theorem cellsP_one (ps : List Pr) (u : Value) (h : u ∈ cellsP ps) : u.oneCell' = true := by
  obtain ⟨j, hj⟩ := List.getElem?_of_mem h
  obtain ⟨i, hi, ⟨-, rfl⟩ | ⟨-, rfl⟩⟩ := cellsP_at ps j u hj <;> rfl

/-- A slice of pairs in blocks from B on. -/
def OwnP (w : World) (B : Nat) (v : Value) (ps : List Pr) : Prop := w.ownsRow B 57 2 v ps.length (cellsP ps)

theorem infoPair : (Tryz.prog.info? 57).map (fun i => (i.zero, i.size, i.bytes)) = some (some (.agg #[.string ⟨#[]⟩, .string ⟨#[]⟩]), 2, 32) := by kernel_rfl

theorem PairsAt.cells {w : World} {b o : Nat} {ps : List Pr} (h : ∀ i (hi : i < ps.length), w.cell? ⟨b, o + i * 2, none⟩ = some (.string ps[i].1) ∧ w.cell? ⟨b, o + i * 2 + 1, none⟩ = some (.string ps[i].2)) (j : Nat) (u : Value) (hj : (cellsP ps)[j]? = some u) : w.cell? ⟨b, o + j, none⟩ = some u := by
  obtain ⟨i, hi, ⟨rfl, rfl⟩ | ⟨rfl, rfl⟩⟩ := cellsP_at ps j u hj
  · exact (h i hi).1
  · exact (h i hi).2

/-- What is owned lies there. -/
theorem OwnP.form {w : World} {B : Nat} {v : Value} {ps : List Pr} (h : OwnP w B v ps) : ∃ a c, v = .slice a ps.length c ∧ PairsAt w a ps ∧ (a = none → c = 0) ∧ ∀ q, a = some q → B ≤ q.block ∧ q.block < w.heap.size ∧ q = ⟨q.block, 0, none⟩ := by
  have hcl := fun g hg j u hj => World.ownsRow.cells h (g := g) hg j u hj
  rcases h.2 with ⟨rfl, h0⟩ | ⟨g, cap, cur, rfl, hg0, hg1, hcap, hmax, hcs, htk⟩
  · exact ⟨none, 0, by rw [h0], fun hn => absurd hn (by omega), fun _ => rfl, fun q hq => by cases hq⟩
  · refine ⟨_, _, rfl, fun _ => ⟨g, 0, rfl, fun i hi => ?_⟩, (fun h => by cases h), fun q hq => ?_⟩
    · obtain ⟨h0, h1⟩ := cellsP_get ps i hi
      have e0 := hcl g rfl _ _ h0
      have e1 := hcl g rfl _ _ h1
      rw [Go.WideShapes.add_plain] at e0 e1
      exact ⟨e0, e1⟩
    · obtain rfl := Option.some.inj hq
      exact ⟨hg0, (Array.getElem?_eq_some_iff.1 hg1).1, rfl⟩


end Go.Proofs.YtmanjegdgjeeiaaGreatDoor
