/-
  What the reference's Name, parts and Check do: the same answers. Patterns put together: how one is read that stands within another.
-/
import Derived.Test.YtcngifkoopcmeaaGreatDoorK13
import Derived.Test.YtcngifkoopcmeaaGreatDoorK01
namespace Go.Proofs.YtcngifkoopcmeaaGreatDoor
open Go.RowKit

/-- A byte may stand at a place of a name. -/
def Fits (s : ByteArray) (i : Nat) : Prop := LetterN (byteN s i) ∨ (i ≠ 0 ∧ DigitN (byteN s i))

theorem name_fits (s : ByteArray) : NameOk s ↔ (1 ≤ s.size ∧ s.size ≤ 16) ∧ ∀ i, i < s.size → Fits s i := by
  unfold NameOk Fits
  constructor
  · rintro ⟨h, h0, hall⟩
    refine ⟨h, fun i hi => ?_⟩
    rcases hall i hi with hl | hd
    · exact .inl hl
    · exact .inr ⟨fun e => h0 (e ▸ hd), hd⟩
  · rintro ⟨h, hall⟩
    refine ⟨h, fun hd => ?_, fun i hi => (hall i hi).imp id (·.2)⟩
    rcases hall 0 (by omega) with hl | ⟨h0, _⟩
    · unfold LetterN DigitN at *; omega
    · exact h0 rfl

set_option maxHeartbeats 2000000 in
theorem refName_any (s : ByteArray) (w : World) (hs : s.size ≤ 9223372036854775807) : Calls Tryz.prog 72 #[.string s] w fun e w' => e = .returned (.bool (decide (NameOk s))) ∧ w' = w := by
  obtain ⟨B0, hB0⟩ : ∃ B0, B0 = decide (NameOk s) := ⟨_, rfl⟩
  rw [← hB0]
  have HB := Lib.hid hB0
  clear hB0
  go_enter Tryz.func72, Tryz.ntmps72
  go_wp2
  go_loop [3] (fun i => ∃ k : Nat, k ≤ s.size ∧ i = .int .i64 k ∧ ∀ j, j < k → Fits s j) (fun i => s.size - (intOf i).toNat)
  case atStart => exact ⟨0, Nat.zero_le _, rfl, fun j hj => absurd hj (Nat.not_lt_zero _)⟩
  case round =>
    obtain ⟨k, hk, rfl, hall⟩ := hrel
    by_cases hlt : k < s.size
    · have hkl : (k : Int) < (s.size : Int) := by omega
      by_cases hF : Fits s k
      · have HF := Lib.hid (upto_succ hall hF)
        clear hall
        unfold Fits LetterN DigitN at hF
        rw [byteN_of hlt] at hF
        rcases hF with (hF | hF) | hF
        · have f0 : ¬ (97 : Int) ≤ (s[k].toNat : Int) := by omega
          have f1 : ((s[k].toNat : Int) == 95) = true := beq_iff_eq.2 (by omega)
          clear hF
          go_wp2
          go_round
          case rel => exact ⟨k + 1, by omega, by go_num, HF.out⟩
          case measure => simp [intOf]; omega
        · have f0 : (97 : Int) ≤ (s[k].toNat : Int) := by omega
          have f1 : (s[k].toNat : Int) ≤ 122 := by omega
          clear hF
          go_wp2
          go_round
          case rel => exact ⟨k + 1, by omega, by go_num, HF.out⟩
          case measure => simp [intOf]; omega
        · have f0 : ¬ (97 : Int) ≤ (s[k].toNat : Int) := by omega
          have f1 : ((s[k].toNat : Int) == 95) = false := beq_eq_false_iff_ne.2 (by omega)
          have f2 : ((k : Int) == 0) = false := beq_eq_false_iff_ne.2 (by omega)
          have g2 : ¬ k = 0 := by omega
          have f3 : ¬ (s[k].toNat : Int) < 48 := by omega
          have f4 : ¬ 57 < (s[k].toNat : Int) := by omega
          clear hF
          go_wp2
          go_round
          case rel => exact ⟨k + 1, by omega, by go_num, HF.out⟩
          case measure => simp [intOf]; omega
      · have HN := Lib.hid (HB.out.trans (decide_eq_false fun h : NameOk s => hF (((name_fits s).1 h).2 k hlt)))
        clear hall
        unfold Fits LetterN DigitN at hF
        rw [byteN_of hlt] at hF
        have hcs : (122 < s[k].toNat ∧ k = 0) ∨ (122 < s[k].toNat ∧ k ≠ 0) ∨ (s[k].toNat < 97 ∧ s[k].toNat ≠ 95 ∧ k = 0) ∨ (s[k].toNat < 97 ∧ s[k].toNat ≠ 95 ∧ k ≠ 0 ∧ s[k].toNat < 48) ∨ (s[k].toNat < 97 ∧ s[k].toNat ≠ 95 ∧ k ≠ 0 ∧ 57 < s[k].toNat) := by omega
        clear hF
        rcases hcs with hF | hF | hF | hF | hF
        · have f0 : (97 : Int) ≤ (s[k].toNat : Int) := by omega
          have f1 : ¬ (s[k].toNat : Int) ≤ 122 := by omega
          have f2 : ((s[k].toNat : Int) == 95) = false := beq_eq_false_iff_ne.2 (by omega)
          obtain rfl : k = 0 := by omega
          clear hF
          go_wp2
          go_ret
          exact ⟨by rw [HN.out]; rfl, rfl⟩
        · have f0 : (97 : Int) ≤ (s[k].toNat : Int) := by omega
          have f1 : ¬ (s[k].toNat : Int) ≤ 122 := by omega
          have f2 : ((s[k].toNat : Int) == 95) = false := beq_eq_false_iff_ne.2 (by omega)
          have f3 : ((k : Int) == 0) = false := beq_eq_false_iff_ne.2 (by omega)
          have g3 : ¬ k = 0 := by omega
          have f4 : ¬ (s[k].toNat : Int) < 48 := by omega
          have f5 : 57 < (s[k].toNat : Int) := by omega
          clear hF
          go_wp2
          go_ret
          exact ⟨by rw [HN.out]; rfl, rfl⟩
        · have f0 : ¬ (97 : Int) ≤ (s[k].toNat : Int) := by omega
          have f1 : ((s[k].toNat : Int) == 95) = false := beq_eq_false_iff_ne.2 (by omega)
          obtain rfl : k = 0 := by omega
          clear hF
          go_wp2
          go_ret
          exact ⟨by rw [HN.out]; rfl, rfl⟩
        · have f0 : ¬ (97 : Int) ≤ (s[k].toNat : Int) := by omega
          have f1 : ((s[k].toNat : Int) == 95) = false := beq_eq_false_iff_ne.2 (by omega)
          have f2 : ((k : Int) == 0) = false := beq_eq_false_iff_ne.2 (by omega)
          have g2 : ¬ k = 0 := by omega
          have f3 : (s[k].toNat : Int) < 48 := by omega
          clear hF
          go_wp2
          go_ret
          exact ⟨by rw [HN.out]; rfl, rfl⟩
        · have f0 : ¬ (97 : Int) ≤ (s[k].toNat : Int) := by omega
          have f1 : ((s[k].toNat : Int) == 95) = false := beq_eq_false_iff_ne.2 (by omega)
          have f2 : ((k : Int) == 0) = false := beq_eq_false_iff_ne.2 (by omega)
          have g2 : ¬ k = 0 := by omega
          have f3 : ¬ (s[k].toNat : Int) < 48 := by omega
          have f4 : 57 < (s[k].toNat : Int) := by omega
          clear hF
          go_wp2
          go_ret
          exact ⟨by rw [HN.out]; rfl, rfl⟩
    · obtain rfl : k = s.size := by omega
      have HN : Hid (B0 = decide (1 ≤ s.size ∧ s.size ≤ 16)) := Lib.hid (HB.out.trans (decide_eq_decide.2 ⟨fun h => h.1, fun h => (name_fits s).2 ⟨h, hall⟩⟩))
      clear hall
      by_cases h1 : 1 ≤ s.size
      · have h1' : (1 : Int) ≤ (s.size : Int) := by omega
        by_cases h2 : s.size ≤ 16
        · have h2' : (s.size : Int) ≤ 16 := by omega
          rw [decide_eq_true (p := 1 ≤ s.size ∧ s.size ≤ 16) ⟨h1, h2⟩] at HN
          go_wp2
          go_ret
          exact ⟨by rw [HN.out]; rfl, rfl⟩
        · have h2' : ¬ (s.size : Int) ≤ 16 := by omega
          rw [decide_eq_false (p := 1 ≤ s.size ∧ s.size ≤ 16) fun h => h2 h.2] at HN
          go_wp2
          go_ret
          exact ⟨by rw [HN.out]; rfl, rfl⟩
      · have h1' : ¬ (1 : Int) ≤ (s.size : Int) := by omega
        rw [decide_eq_false (p := 1 ≤ s.size ∧ s.size ≤ 16) fun h => h1 h.1] at HN
        go_wp2
        go_ret
        exact ⟨by rw [HN.out]; rfl, rfl⟩

theorem partsE_le (ps : List Pr) : 0 ≤ partsE ps ∧ partsE ps ≤ 6 := by
  unfold partsE
  split
  · omega
  · split
    · omega
    · split <;> omega

end Go.Proofs.YtcngifkoopcmeaaGreatDoor
namespace Go.Proofs.YtcngifkoopcmeaaGreatDoor

/- How many steps are allowed does not matter. -/
theorem pAtom_congr {f g : List UInt8 → Option (Lang × List UInt8)} {l : List UInt8} (h : ∀ t : List UInt8, t.length < l.length → f t = g t) : pAtom f l = pAtom g l := by
  cases l with
  | nil => rfl
  | cons c l => unfold pAtom; simp only [h l (by simp)]
theorem pPart_congr {f g : List UInt8 → Option (Lang × List UInt8)} {l : List UInt8} (h : ∀ t : List UInt8, t.length < l.length → f t = g t) : pPart f l = pPart g l := by
  unfold pPart; rw [pAtom_congr h]
theorem pLoop_fuel (k : Nat) : ∀ (n m : Nat) (R r : Lang) (l : List UInt8), l.length < k → l.length < n → l.length < m → pLoop n R r l = pLoop m R r l := by
  induction k with
  | zero => intro n m R r l h; omega
  | succ k ih =>
    intro n m R r l hk hn hm
    obtain ⟨n, rfl⟩ : ∃ a, n = a + 1 := ⟨n - 1, by omega⟩
    obtain ⟨m, rfl⟩ : ∃ a, m = a + 1 := ⟨m - 1, by omega⟩
    have hp : pPart (pLoop n noL epsL) l = pPart (pLoop m noL epsL) l := pPart_congr fun t ht => ih n m noL epsL t (by omega) (by omega) (by omega)
    unfold pLoop
    split
    · split
      · rename_i he hh
        have hd : (l.drop 1).length < l.length := by
          cases l with
          | nil => cases hh
          | cons c l => simp
        exact ih n m _ _ _ (by omega) (by omega) (by omega)
      · rfl
    · rw [hp]
      cases hq : pPart (pLoop m noL epsL) l with
      | none => rfl
      | some q =>
        obtain ⟨A, l'⟩ := q
        have := pPart_len (fun l A l' hh => pLoop_len hh) hq
        exact ih n m _ _ _ (by omega) (by omega) (by omega)

/-- The reading of rows, with as many steps as it takes. -/
def pL (R r : Lang) (l : List UInt8) : Option (Lang × List UInt8) := pLoop (l.length + 1) R r l
theorem pL_of {n : Nat} (R r : Lang) {l : List UInt8} (h : l.length < n) : pLoop n R r l = pL R r l := pLoop_fuel (l.length + 1) n (l.length + 1) R r l (by omega) h (by omega)
theorem pL_bar (R r : Lang) (l : List UInt8) : pL R r (124 :: l) = pL (altL R r) epsL l := by
  unfold pL
  rw [pLoop_bar]
  exact pL_of _ _ (by simp)
theorem pL_end (R r : Lang) (l : List UInt8) (h : l.head? = none ∨ l.head? = some 41) : pL R r l = some (altL R r, l) := by
  unfold pL
  refine pLoop_end ?_ ?_
  · cases l with
    | nil => rfl
    | cons c l =>
      rcases h with h | h
      · cases h
      · simp only [List.head?_cons, Option.some.injEq] at h; subst h; rfl
  · rcases h with h | h <;> rw [h] <;> simp
def pP (l : List UInt8) : Option (Lang × List UInt8) := pPart (pL noL epsL) l
theorem pP_of {n : Nat} {l : List UInt8} (h : l.length ≤ n) : pPart (pLoop n noL epsL) l = pP l := pPart_congr fun t ht => pL_of _ _ (by omega)
theorem pL_part {R r A : Lang} {l l' : List UInt8} (he : rowEnd l = false) (h : pP l = some (A, l')) : pL R r l = pL R (catL r A) l' := by
  have hl := pPart_len (fun l A l' hh => pLoop_len hh) h
  unfold pL
  rw [pLoop_part he ((pP_of (Nat.le_refl _)).trans h)]
  exact pL_of _ _ (by omega)
theorem pL_part_no {R r : Lang} {l : List UInt8} (he : rowEnd l = false) (h : pP l = none) : pL R r l = none := by
  unfold pL
  rw [pLoop_part_no he ((pP_of (Nat.le_refl _)).trans h)]
theorem parse_pL (l : List UInt8) : pParse l = match pL noL epsL l with | none => none | some (A, l') => if l' = [] then some A else none := rfl
theorem parse_some {l : List UInt8} {A : Lang} : pParse l = some A ↔ pL noL epsL l = some (A, []) := by
  rw [parse_pL]
  constructor
  · intro h
    split at h
    · cases h
    · rename_i A' l' h1
      split at h
      · rename_i hn
        injection h with h
        subst h hn
        exact h1
      · cases h
  · intro h; rw [h]; rfl

/- What stands behind. -/
theorem pByte_app {l l' : List UInt8} {c : UInt8} (x : List UInt8) (h : pByte l = some (c, l')) : pByte (l ++ x) = some (c, l' ++ x) := by
  unfold pByte at h
  split at h
  · cases h
  · rename_i d l
    split at h
    · cases h
    · rename_i h1
      split at h
      · rename_i h2
        split at h
        · cases h
        · injection h with h; injection h with e1 e2; subst e1 e2 h2; rfl
      · rename_i h2
        injection h with h; injection h with e1 e2; subst e1 e2
        simp [pByte, h1, h2]
theorem range_app {l : List UInt8} (x : List UInt8) (h1 : l ≠ []) (h2 : l ≠ [45]) : rangeB (l ++ x) = rangeB l := by
  match l with
  | [] => exact absurd rfl h1
  | [c] =>
    have hc : c ≠ 45 := fun e => h2 (by rw [e])
    cases x with
    | nil => rfl
    | cons d x => simp [rangeB, hc]
  | c :: d :: l => rfl
theorem pItem_app {T T' : BSet} {l l' : List UInt8} (x : List UInt8) (h : pItem T l = some (T', l')) (h1 : l' ≠ []) (h2 : l' ≠ [45]) : pItem T (l ++ x) = some (T', l' ++ x) := by
  unfold pItem at h ⊢
  split at h
  · cases h
  · rename_i a l1 hb
    rw [pByte_app x hb]
    simp only
    split at h
    · rename_i hr
      have hl1 : l1 ≠ [] := fun e => by rw [e] at hr; cases hr
      have hl2 : l1 ≠ [45] := fun e => by rw [e] at hr; cases hr
      rw [range_app x hl1 hl2, if_pos hr]
      split at h
      · cases h
      · rename_i b l2 hb2
        have e : (l1 ++ x).drop 1 = l1.drop 1 ++ x := by
          cases l1 with
          | nil => exact absurd rfl hl1
          | cons c l => rfl
        rw [e, pByte_app x hb2]
        simp only
        split at h
        · cases h
        · rename_i hlt
          rw [if_neg hlt]
          injection h with h; injection h with e1 e2; subst e1 e2; rfl
    · rename_i hr
      injection h with h; injection h with e1 e2; subst e1 e2
      rw [range_app x h1 h2, if_neg hr]
theorem pItems_ne {n : Nat} {T T' : BSet} {l l' : List UInt8} (h : pItems n T l = some (T', l')) : l ≠ [] ∧ l ≠ [45] := by
  cases n with
  | zero => cases h
  | succ n =>
    refine ⟨fun e => ?_, fun e => ?_⟩
    · subst e; cases h
    · subst e
      have : pItem T [45] = some (addB T 45 45, []) := rfl
      rw [pItems, this] at h
      simp only [List.head?_nil, reduceCtorEq, if_false] at h
      cases n with
      | zero => cases h
      | succ n => cases h
theorem pItems_app {n : Nat} {T T' : BSet} {l l' : List UInt8} (x : List UInt8) (h : pItems n T l = some (T', l')) : pItems n T (l ++ x) = some (T', l' ++ x) := by
  induction n generalizing T l with
  | zero => cases h
  | succ n ih =>
    unfold pItems at h ⊢
    split at h
    · cases h
    · rename_i T1 l1 h1
      split at h
      · rename_i hh
        obtain ⟨r, rfl⟩ : ∃ r, l1 = 93 :: r := by
          cases l1 with
          | nil => cases hh
          | cons c r => exact ⟨r, by simpa using hh⟩
        rw [pItem_app x h1 (by simp) (by simp)]
        injection h with h; injection h with e1 e2; subst e1 e2
        rfl
      · rename_i hh
        obtain ⟨h2, h3⟩ := pItems_ne h
        rw [pItem_app x h1 h2 h3]
        simp only
        rw [if_neg (by
          cases l1 with
          | nil => exact absurd rfl h2
          | cons c r => exact hh), ih h]
theorem pItems_fuel {n : Nat} {T T' : BSet} {l l' : List UInt8} (h : pItems n T l = some (T', l')) (m : Nat) (hm : n ≤ m) : pItems m T l = some (T', l') := by
  induction n generalizing T l m with
  | zero => cases h
  | succ n ih =>
    obtain ⟨m, rfl⟩ : ∃ a, m = a + 1 := ⟨m - 1, by omega⟩
    unfold pItems at h ⊢
    split at h
    · cases h
    · split at h
      · rename_i T1 l1 h1 hh
        rw [if_pos hh]; exact h
      · rename_i T1 l1 h1 hh
        rw [if_neg hh]; exact ih h m (by omega)
theorem pSet_app {T : BSet} {l l' : List UInt8} (x : List UInt8) (h : pSet l = some (T, l')) : pSet (l ++ x) = some (T, l' ++ x) := by
  unfold pSet at h ⊢
  cases l with
  | nil =>
    split at h
    · rename_i hh; cases hh
    · cases h
  | cons c l =>
    split at h
    · rename_i hh
      rw [if_pos (show (c :: l ++ x).head? = some 94 from hh)]
      split at h
      · cases h
      · rename_i T1 l1 h1
        injection h with h; injection h with e1 e2; subst e1 e2
        have := pItems_fuel (pItems_app x h1) ((c :: l ++ x).length) (by simp)
        simp only [List.cons_append, List.drop_succ_cons, List.drop_zero] at this ⊢
        rw [this]
    · rename_i hh
      rw [if_neg (show ¬ (c :: l ++ x).head? = some 94 from hh)]
      exact pItems_fuel (pItems_app x h) _ (by simp)

/-- What may stand behind an atom and is no sign of it. -/
def plainHead (x : List UInt8) : Prop := x.head? ≠ some 42 ∧ x.head? ≠ some 43 ∧ x.head? ≠ some 63
theorem pSuf_stop (A : Lang) (x : List UInt8) (h : plainHead x) : pSuf A x = (A, x) := by
  cases x with
  | nil => rfl
  | cons c x =>
    have h1 : c ≠ 42 := by simpa using h.1
    have h2 : c ≠ 43 := by simpa using h.2.1
    have h3 : c ≠ 63 := by simpa using h.2.2
    simp [pSuf, h1, h2, h3]
theorem pSuf_app (A : Lang) (l x : List UInt8) (hx : plainHead x) : pSuf A (l ++ x) = ((pSuf A l).1, (pSuf A l).2 ++ x) := by
  induction l generalizing A with
  | nil => exact pSuf_stop A x hx
  | cons c l ih =>
    rw [List.cons_append]
    unfold pSuf
    split
    · exact ih _
    · split
      · exact ih _
      · split
        · exact ih _
        · rfl

theorem pAtom_app {f g : List UInt8 → Option (Lang × List UInt8)} {l l' x : List UInt8} {A : Lang} (h : pAtom f l = some (A, l')) (hi : ∀ t B t', t.length < l.length → f t = some (B, 41 :: t') → g (t ++ x) = some (B, 41 :: t' ++ x)) : pAtom g (l ++ x) = some (A, l' ++ x) := by
  cases l with
  | nil => cases h
  | cons c l =>
    unfold pAtom at h
    rw [List.cons_append]
    unfold pAtom
    simp only at h ⊢
    split at h
    · rename_i hc
      rw [if_pos hc]
      split at h
      · cases h
      · rename_i B t' h1
        split at h
        · rename_i hh
          obtain ⟨r, rfl⟩ : ∃ r, t' = 41 :: r := by
            cases t' with
            | nil => cases hh
            | cons d r => exact ⟨r, by simpa using hh⟩
          rw [hi l B r (by simp) h1]
          injection h with h; injection h with e1 e2; subst e1 e2
          rfl
        · cases h
    · rename_i hc
      rw [if_neg hc]
      split at h
      · rename_i hc2
        rw [if_pos hc2]
        split at h
        · cases h
        · rename_i T t' h1
          rw [pSet_app x h1]
          injection h with h; injection h with e1 e2; subst e1 e2
          rfl
      · rename_i hc2
        rw [if_neg hc2]
        split at h
        · rename_i hc3
          rw [if_pos hc3]
          injection h with h; injection h with e1 e2; subst e1 e2
          rfl
        · rename_i hc3
          rw [if_neg hc3]
          split at h
          · rename_i hc4
            rw [if_pos hc4]
            split at h
            · cases h
            · injection h with h; injection h with e1 e2; subst e1 e2
              rfl
          · rename_i hc4
            rw [if_neg hc4]
            split at h
            · cases h
            · rename_i hc5
              rw [if_neg hc5]
              injection h with h; injection h with e1 e2; subst e1 e2
              rfl

/-- A row's end that is none of the text's: what stands behind is plain. -/
theorem plain_41 (x : List UInt8) : plainHead (41 :: x) := ⟨by simp, by simp, by simp⟩
theorem plain_124 (x : List UInt8) : plainHead (124 :: x) := ⟨by simp, by simp, by simp⟩

theorem rowEnd_app {l x : List UInt8} (h : rowEnd l = false) : rowEnd (l ++ x) = false := by
  cases l with
  | nil => cases h
  | cons c l => exact h
theorem head_app {l x : List UInt8} (h : l ≠ []) : (l ++ x).head? = l.head? := by
  cases l with
  | nil => exact absurd rfl h
  | cons c l => rfl

/-- Rows with something behind: a bracket ends them, a bar goes on with them. -/
theorem pL_app (k : Nat) : ∀ (R r A : Lang) (l l' x : List UInt8), l.length < k → plainHead x → pL R r l = some (A, l') →
    (l' ≠ [] → pL R r (l ++ x) = some (A, l' ++ x)) ∧ (l' = [] → ∃ R' r', A = altL R' r' ∧ pL R r (l ++ x) = pL R' r' x) := by
  induction k with
  | zero => intro R r A l l' x h; omega
  | succ k ih =>
    intro R r A l l' x hk hx h
    cases hre : rowEnd l with
    | true =>
      cases l with
      | nil =>
        rw [pL_end R r [] (.inl rfl)] at h
        injection h with h; injection h with e1 e2; subst e1 e2
        exact ⟨fun h => absurd rfl h, fun _ => ⟨R, r, rfl, rfl⟩⟩
      | cons c l =>
        by_cases hc : c = 124
        · subst hc
          rw [pL_bar] at h
          rw [List.cons_append, pL_bar]
          exact ih _ _ A l l' x (by simp at hk; omega) hx h
        · have hc2 : c = 41 := by simpa [rowEnd, hc] using hre
          subst hc2
          rw [pL_end R r (41 :: l) (.inr rfl)] at h
          injection h with h; injection h with e1 e2; subst e1 e2
          exact ⟨fun _ => by rw [List.cons_append, pL_end R r (41 :: (l ++ x)) (.inr rfl)], fun h => by cases h⟩
    | false =>
      cases hp : pP l with
      | none => rw [pL_part_no hre hp] at h; cases h
      | some q =>
        obtain ⟨B, l1⟩ := q
        have hlen := pPart_len (fun l A l' hh => pLoop_len hh) hp
        rw [pL_part hre hp] at h
        have hp2 : pP (l ++ x) = some (B, l1 ++ x) := by
          unfold pP pPart at hp ⊢
          split at hp
          · cases hp
          · rename_i C l2 ha
            have ha2 := pAtom_app (g := pL noL epsL) (x := x) ha (fun t D t' ht h1 => by
              have := (ih noL epsL D t (41 :: t') x (by omega) hx h1).1 (by simp)
              exact this)
            rw [ha2]
            simp only
            injection hp with hp
            rw [pSuf_app C l2 x hx, hp]
        rw [pL_part (rowEnd_app hre) hp2]
        exact ih _ _ A l1 l' x (by omega) hx h

theorem catL_congr {r1 r2 A : Lang} (h : ∀ s, r1 s ↔ r2 s) (s : List UInt8) : catL r1 A s ↔ catL r2 A s :=
  ⟨fun ⟨u, v, e, h1, h2⟩ => ⟨u, v, e, (h u).1 h1, h2⟩, fun ⟨u, v, e, h1, h2⟩ => ⟨u, v, e, (h u).2 h1, h2⟩⟩
theorem catL_eps (A : Lang) (s : List UInt8) : catL epsL A s ↔ A s :=
  ⟨fun ⟨u, v, e, h1, h2⟩ => by rw [e, show u = [] from h1]; exact h2, fun h => ⟨[], s, rfl, rfl, h⟩⟩

/-- What stands ahead does not change what is read. -/
theorem pL_ahead (k : Nat) : ∀ (R1 R2 r1 r2 C1 : Lang) (l l' : List UInt8), l.length < k → (∀ s, r1 s ↔ r2 s) → pL R1 r1 l = some (C1, l') →
    ∃ C2 D : Lang, pL R2 r2 l = some (C2, l') ∧ (∀ s, C1 s ↔ R1 s ∨ D s) ∧ ∀ s, C2 s ↔ R2 s ∨ D s := by
  induction k with
  | zero => intro R1 R2 r1 r2 C1 l l' h; omega
  | succ k ih =>
    intro R1 R2 r1 r2 C1 l l' hk hr h
    cases hre : rowEnd l with
    | true =>
      by_cases hb : l.head? = some 124
      · obtain ⟨t, rfl⟩ : ∃ t, l = 124 :: t := by
          cases l with
          | nil => cases hb
          | cons c t => exact ⟨t, by simpa using hb⟩
        rw [pL_bar] at h
        obtain ⟨C2, D, h1, h2, h3⟩ := ih (altL R1 r1) (altL R2 r2) epsL epsL C1 t l' (by simp at hk; omega) (fun s => Iff.rfl) h
        refine ⟨C2, altL r1 D, by rw [pL_bar]; exact h1, fun s => (h2 s).trans or_assoc, fun s => (h3 s).trans ?_⟩
        unfold altL
        rw [hr s]
        exact or_assoc
      · have hl : l.head? = none ∨ l.head? = some 41 := by
          cases l with
          | nil => exact .inl rfl
          | cons c t =>
            have hc : c ≠ 124 := by simpa using hb
            have : c = 41 := by simpa [rowEnd, hc] using hre
            exact .inr (by rw [this]; rfl)
        rw [pL_end R1 r1 l hl] at h
        injection h with h; injection h with e1 e2; subst e1 e2
        exact ⟨_, r1, pL_end R2 r2 l hl, fun s => Iff.rfl, fun s => or_congr Iff.rfl (hr s).symm⟩
    | false =>
      cases hp : pP l with
      | none => rw [pL_part_no hre hp] at h; cases h
      | some q =>
        obtain ⟨B, l1⟩ := q
        have hlen := pPart_len (fun l A l' hh => pLoop_len hh) hp
        rw [pL_part hre hp] at h
        obtain ⟨C2, D, h1, h2, h3⟩ := ih R1 R2 (catL r1 B) (catL r2 B) C1 l1 l' (by omega) (catL_congr hr) h
        exact ⟨C2, D, by rw [pL_part hre hp]; exact h1, h2, h3⟩

/-- Two patterns with a bar between. -/
theorem parse_bar {p q : List UInt8} {A B : Lang} (hp : pParse p = some A) (hq : pParse q = some B) : ∃ C, pParse (p ++ 124 :: q) = some C ∧ ∀ s, C s ↔ A s ∨ B s := by
  rw [parse_some] at hp hq
  obtain ⟨R', r', rfl, h2⟩ := (pL_app (p.length + 1) noL epsL A p [] (124 :: q) (by omega) (plain_124 q) hp).2 rfl
  rw [pL_bar] at h2
  obtain ⟨C2, D, h3, h4, h5⟩ := pL_ahead (q.length + 1) noL (altL R' r') epsL epsL B q [] (by omega) (fun s => Iff.rfl) hq
  refine ⟨C2, parse_some.2 (h2.trans h3), fun s => (h5 s).trans (or_congr Iff.rfl ?_)⟩
  rw [h4 s]
  exact ⟨.inr, fun h => h.elim (fun h => h.elim) id⟩

/-- A pattern in brackets. -/
theorem part_par {p : List UInt8} {A : Lang} (hp : pParse p = some A) (x : List UInt8) : pP (40 :: (p ++ 41 :: x)) = some (pSuf A x) := by
  rw [parse_some] at hp
  obtain ⟨R', r', rfl, h2⟩ := (pL_app (p.length + 1) noL epsL A p [] (41 :: x) (by omega) (plain_41 x) hp).2 rfl
  rw [pL_end R' r' (41 :: x) (.inr rfl)] at h2
  have ha : pAtom (pL noL epsL) (40 :: (p ++ 41 :: x)) = some (altL R' r', x) := by
    show (match pL noL epsL (p ++ 41 :: x) with | none => none | some (A, l') => if l'.head? = some 41 then some (A, l'.drop 1) else none) = some (altL R' r', x)
    rw [h2]
    rfl
  unfold pP pPart
  rw [ha]
theorem rowEnd_40 (x : List UInt8) : rowEnd (40 :: x) = false := rfl
theorem pL_par {p : List UInt8} {A : Lang} (hp : pParse p = some A) (R r : Lang) (x : List UInt8) : pL R r (40 :: (p ++ 41 :: x)) = pL R (catL r (pSuf A x).1) (pSuf A x).2 := pL_part (rowEnd_40 _) (part_par hp x)

/-- Two patterns in brackets, with a bar between. -/
theorem parse_bars {p q : List UInt8} {A B : Lang} (hp : pParse p = some A) (hq : pParse q = some B) : ∃ C, pParse (40 :: (p ++ 41 :: 124 :: 40 :: (q ++ [41]))) = some C ∧ ∀ s, C s ↔ A s ∨ B s := by
  refine ⟨altL (altL noL (catL epsL A)) (catL epsL B), parse_some.2 ?_, fun s => ?_⟩
  · rw [pL_par hp, pSuf_stop A _ (plain_124 _), pL_bar, pL_par hq]
    exact pL_end _ _ [] (.inl rfl)
  · unfold altL
    rw [catL_eps, catL_eps]
    exact ⟨fun h => h.elim (fun h => h.elim (fun h => h.elim) .inl) .inr, fun h => h.elim (fun h => .inl (.inr h)) .inr⟩
/-- Two patterns in brackets, one behind the other. -/
theorem parse_two {p q : List UInt8} {A B : Lang} (hp : pParse p = some A) (hq : pParse q = some B) : ∃ C, pParse (40 :: (p ++ 41 :: 40 :: (q ++ [41]))) = some C ∧ ∀ s, C s ↔ catL A B s := by
  refine ⟨altL noL (catL (catL epsL A) B), parse_some.2 ?_, fun s => ?_⟩
  · rw [pL_par hp, pSuf_stop A _ ⟨by simp, by simp, by simp⟩, pL_par hq]
    exact pL_end _ _ [] (.inl rfl)
  · rw [← catL_congr (catL_eps A) s]
    exact ⟨fun h => h.elim (fun h => h.elim) id, .inr⟩
/-- A pattern in brackets, and a sign behind. -/
theorem parse_sign {p : List UInt8} {A : Lang} (hp : pParse p = some A) (c : UInt8) (A' : Lang) (hc : pSuf A [c] = (A', [])) : ∃ C, pParse (40 :: (p ++ [41, c])) = some C ∧ ∀ s, C s ↔ A' s := by
  refine ⟨altL noL (catL epsL A'), parse_some.2 ?_, fun s => ?_⟩
  · rw [pL_par hp, hc]
    exact pL_end _ _ [] (.inl rfl)
  · unfold altL
    rw [catL_eps]
    exact ⟨fun h => h.elim (fun h => h.elim) id, .inr⟩
theorem parse_star {p : List UInt8} {A : Lang} (hp : pParse p = some A) : ∃ C, pParse (40 :: (p ++ [41, 42])) = some C ∧ ∀ s, C s ↔ optL (PlusL A) s := parse_sign hp 42 _ rfl
theorem parse_plus {p : List UInt8} {A : Lang} (hp : pParse p = some A) : ∃ C, pParse (40 :: (p ++ [41, 43])) = some C ∧ ∀ s, C s ↔ PlusL A s := parse_sign hp 43 _ rfl
theorem parse_opt {p : List UInt8} {A : Lang} (hp : pParse p = some A) : ∃ C, pParse (40 :: (p ++ [41, 63])) = some C ∧ ∀ s, C s ↔ optL A s := parse_sign hp 63 _ rfl

end Go.Proofs.YtcngifkoopcmeaaGreatDoor
