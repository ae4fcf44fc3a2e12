/-
  Plain: rows that are put together out of two sorted ones, by rotations (what a stable sort of the library does). What the library's stable sort does at a row of keyed alerts: swapRange, rotate (over any program that bears these bodies, at elements of k cells).
-/
import Derived.Sort.LotA
import Derived.Test.YtmanjegdgjeeiaaGreatDoorProg
import Derived.Shelf.SlSortCmp.KitK
import Derived.Deep.LoopGhost
import Derived.Lib.Hide
namespace Go.Proofs.YtmanjegdgjeeiaaGreatDoor
open Go.Lib Go.RowKit Go.Shelf Go.Sort
section
variable {α : Type} [Inhabited α]

/-- A row whose places are taken from another one's. -/
def mkA (d : Array α) (f : Nat → Nat) : Array α := Array.ofFn (n := d.size) fun i => d[f i.1]!
theorem mkA_size (d : Array α) (f : Nat → Nat) : (mkA d f).size = d.size := by simp [mkA]
theorem mkA_get (d : Array α) (f : Nat → Nat) {i : Nat} (h : i < d.size) : (mkA d f)[i]! = d[f i]! := by
  rw [getElem!_pos (mkA d f) i (by rw [mkA_size]; exact h)]
  simp [mkA]
theorem arrE {d d' : Array α} (hs : d.size = d'.size) (h : ∀ i, i < d.size → d[i]! = d'[i]!) : d = d' := by
  apply Array.ext hs
  intro i h1 h2
  have := h i h1
  rwa [getElem!_pos d i h1, getElem!_pos d' i h2] at this
theorem mkA_id {d : Array α} {f : Nat → Nat} (h : ∀ i, i < d.size → f i = i) : mkA d f = d :=
  arrE (mkA_size _ _) fun i hi => by rw [mkA_size] at hi; rw [mkA_get d f hi, h i hi]
theorem mkA_congr {d : Array α} {f g : Nat → Nat} (h : ∀ i, i < d.size → f i = g i) : mkA d f = mkA d g :=
  arrE (by simp [mkA_size]) fun i hi => by rw [mkA_size] at hi; rw [mkA_get d f hi, mkA_get d g hi, h i hi]
theorem mkA_mkA {d : Array α} {f g h : Nat → Nat} (hg : ∀ i, i < d.size → g i < d.size) (hh : ∀ i, i < d.size → f (g i) = h i) : mkA (mkA d f) g = mkA d h :=
  arrE (by simp [mkA_size]) fun i hi => by
    rw [mkA_size, mkA_size] at hi
    rw [mkA_get _ g (by rw [mkA_size]; exact hi), mkA_get d f (hg i hi), mkA_get d h hi, hh i hi]
theorem swp_mkA {d : Array α} {f h : Nat → Nat} {x y : Nat} (hx : x < d.size) (hy : y < d.size) (hh : ∀ i, i < d.size → (if i = y then f x else if i = x then f y else f i) = h i) : swp (mkA d f) x y = mkA d h :=
  arrE (by simp [mkA_size, size_swp]) fun i hi => by
    rw [size_swp, mkA_size] at hi
    rw [swp_get (mkA d f) (by rw [mkA_size]; exact hx) (by rw [mkA_size]; exact hy), mkA_get d h hi, ← hh i hi, mkA_get d f hx, mkA_get d f hy, mkA_get d f hi]
    split
    · rfl
    · split <;> rfl

/-- Where what stands at a place stood: [a, m) and [m, b) put one behind the other the other way. -/
def rotF (a m b t : Nat) : Nat := if a ≤ t ∧ t < a + (b - m) then t + (m - a) else if a + (b - m) ≤ t ∧ t < b then t - (b - m) else t
/-- The same where n places from a on and n from b on are exchanged. -/
def swrF (a b n t : Nat) : Nat := if a ≤ t ∧ t < a + n then t - a + b else if b ≤ t ∧ t < b + n then t - b + a else t

theorem swr_zero (d : Array α) (a b : Nat) : mkA d (swrF a b 0) = d := mkA_id fun i _ => by unfold swrF; repeat' split
                                                                                            all_goals omega
theorem swr_step (d : Array α) {a b n : Nat} (h : a + n < b) (hb : b + n < d.size) : swp (mkA d (swrF a b n)) (a + n) (b + n) = mkA d (swrF a b (n + 1)) :=
  swp_mkA (by omega) hb fun i _ => by
    unfold swrF
    repeat' split
    all_goals omega
theorem rot_gt (d : Array α) {m i j : Nat} (hi : i ≤ m) (hb : m + j ≤ d.size) (hij : j < i) : mkA (mkA d (swrF (m - i) m j)) (rotF (m - (i - j)) m (m + j)) = mkA d (rotF (m - i) m (m + j)) :=
  mkA_mkA (fun t ht => by unfold rotF; repeat' split
                          all_goals omega) fun t ht => by
    unfold swrF rotF
    repeat' split
    all_goals omega
theorem rot_lt (d : Array α) {m i j : Nat} (hi : i ≤ m) (hb : m + j ≤ d.size) (hij : i < j) : mkA (mkA d (swrF (m - i) (m + j - i) i)) (rotF (m - i) m (m + (j - i))) = mkA d (rotF (m - i) m (m + j)) :=
  mkA_mkA (fun t ht => by unfold rotF; repeat' split
                          all_goals omega) fun t ht => by
    unfold swrF rotF
    repeat' split
    all_goals omega
theorem rot_eq (d : Array α) {m i : Nat} (hi : i ≤ m) : mkA d (swrF (m - i) m i) = mkA d (rotF (m - i) m (m + i)) :=
  mkA_congr fun t ht => by
    unfold swrF rotF
    repeat' split
    all_goals omega
theorem rot_none (d : Array α) {a m b : Nat} (h : a = m ∨ b = m) (ha : a ≤ m) (hb : m ≤ b) : mkA d (rotF a m b) = d := mkA_id fun i _ => by
  unfold rotF
  repeat' split
  all_goals omega
theorem rot_up (d : Array α) {a k : Nat} (hk : a ≤ k) (hb : k + 1 < d.size) : swp (mkA d (rotF a (a + 1) (k + 1))) k (k + 1) = mkA d (rotF a (a + 1) (k + 2)) :=
  swp_mkA (by omega) hb fun i _ => by
    unfold rotF
    repeat' split
    all_goals omega
theorem rot_down (d : Array α) {k m : Nat} (hk : k + 1 ≤ m) (hb : m < d.size) : swp (mkA d (rotF (k + 1) m (m + 1))) (k + 1) k = mkA d (rotF k m (m + 1)) :=
  swp_mkA (by omega) (by omega) fun i _ => by
    unfold rotF
    repeat' split
    all_goals omega

theorem rot_perm (d : Array α) {a m b : Nat} (ha : a ≤ m) (hm : m ≤ b) (hb : b ≤ d.size) : PermIn a b d (mkA d (rotF a m b)) := by
  refine ⟨mkA_size _ _, fun i hi => ?_, ?_⟩
  · by_cases h : i < d.size
    · rw [mkA_get d _ h]
      congr 1
      unfold rotF
      repeat' split
      all_goals omega
    · rw [getElem!_neg (mkA d (rotF a m b)) i (by rw [mkA_size]; exact h), getElem!_neg d i h]
  · rw [extract_toList _ a b (by rw [mkA_size]; exact hb), extract_toList d a b hb]
    have e1 : List.range' a (b - a) = List.range' a (b - m) ++ List.range' (a + (b - m)) (m - a) := by
      rw [show b - a = (b - m) + (m - a) by omega, ← List.range'_append_1]
    have e2 : List.range' a (b - a) = List.range' a (m - a) ++ List.range' m (b - m) := by
      have := List.range'_append_1 (s := a) (m := m - a) (n := b - m)
      rw [show a + (m - a) = m by omega, show m - a + (b - m) = b - a by omega] at this
      exact this.symm
    conv => lhs; rw [e1]
    conv => rhs; rw [e2]
    rw [List.map_append, List.map_append]
    have f1 : (List.range' a (b - m)).map (fun i => (mkA d (rotF a m b))[i]!) = (List.range' m (b - m)).map (fun i => d[i]!) := by
      apply List.ext_getElem (by simp)
      intro t h1 h2
      simp only [List.length_map, List.length_range'] at h1
      simp only [List.getElem_map, List.getElem_range', Nat.one_mul]
      rw [mkA_get d _ (by omega)]
      congr 1
      unfold rotF
      repeat' split
      all_goals omega
    have f2 : (List.range' (a + (b - m)) (m - a)).map (fun i => (mkA d (rotF a m b))[i]!) = (List.range' a (m - a)).map (fun i => d[i]!) := by
      apply List.ext_getElem (by simp)
      intro t h1 h2
      simp only [List.length_map, List.length_range'] at h1
      simp only [List.getElem_map, List.getElem_range', Nat.one_mul]
      rw [mkA_get d _ (by omega)]
      congr 1
      unfold rotF
      repeat' split
      all_goals omega
    rw [f1, f2]
    exact List.perm_append_comm

/-- Rising by L. -/
def SortL (L : α → α → Prop) (a b : Nat) (d : Array α) : Prop := ∀ i j, a ≤ i → i < j → j < b → L d[i]! d[j]!
/-- Two rows, each rising, and between them L is what is asked. -/
structure TwoL (lt : α → α → Bool) (L : α → α → Prop) (a m b : Nat) (d : Array α) : Prop where
  left : SortL L a m d
  right : SortL L m b d
  cross : ∀ i j, a ≤ i → i < m → m ≤ j → j < b → (lt d[j]! d[i]! = true → L d[j]! d[i]!) ∧ (lt d[j]! d[i]! = false → L d[i]! d[j]!)
variable {lt : α → α → Bool} {L : α → α → Prop} {d : Array α} {a m b : Nat}

theorem one_left (hT : TwoL lt L a (a + 1) b d) {i : Nat} (hi : a + 1 ≤ i) (hib : i ≤ b) (hb : b ≤ d.size) (h1 : ∀ h, a + 1 ≤ h → h < i → L d[h]! d[a]!) (h2 : ∀ h, i ≤ h → h < b → L d[a]! d[h]!) : SortL L a b (mkA d (rotF a (a + 1) i)) := by
  intro x y hx hxy hy
  rw [mkA_get d _ (by omega), mkA_get d _ (by omega)]
  by_cases c1 : x < i - 1
  · rw [show rotF a (a + 1) i x = x + 1 by unfold rotF; rw [if_pos (by omega)]; omega]
    by_cases c2 : y < i - 1
    · rw [show rotF a (a + 1) i y = y + 1 by unfold rotF; rw [if_pos (by omega)]; omega]
      exact hT.right _ _ (by omega) (by omega) (by omega)
    · by_cases c3 : y = i - 1
      · rw [show rotF a (a + 1) i y = a by unfold rotF; rw [if_neg (by omega), if_pos (by omega)]; omega]
        exact h1 _ (by omega) (by omega)
      · rw [show rotF a (a + 1) i y = y by unfold rotF; rw [if_neg (by omega), if_neg (by omega)]]
        exact hT.right _ _ (by omega) (by omega) (by omega)
  · by_cases c3 : x = i - 1
    · rw [show rotF a (a + 1) i x = a by unfold rotF; rw [if_neg (by omega), if_pos (by omega)]; omega, show rotF a (a + 1) i y = y by unfold rotF; rw [if_neg (by omega), if_neg (by omega)]]
      exact h2 _ (by omega) (by omega)
    · rw [show rotF a (a + 1) i x = x by unfold rotF; rw [if_neg (by omega), if_neg (by omega)], show rotF a (a + 1) i y = y by unfold rotF; rw [if_neg (by omega), if_neg (by omega)]]
      exact hT.right _ _ (by omega) (by omega) (by omega)

theorem one_right (hT : TwoL lt L a m (m + 1) d) {i : Nat} (hi : a ≤ i) (him : i ≤ m) (hb : m < d.size) (h1 : ∀ h, a ≤ h → h < i → L d[h]! d[m]!) (h2 : ∀ h, i ≤ h → h < m → L d[m]! d[h]!) : SortL L a (m + 1) (mkA d (rotF i m (m + 1))) := by
  intro x y hx hxy hy
  rw [mkA_get d _ (by omega), mkA_get d _ (by omega)]
  by_cases c1 : x < i
  · rw [show rotF i m (m + 1) x = x by unfold rotF; rw [if_neg (by omega), if_neg (by omega)]]
    by_cases c2 : y < i
    · rw [show rotF i m (m + 1) y = y by unfold rotF; rw [if_neg (by omega), if_neg (by omega)]]
      exact hT.left _ _ (by omega) (by omega) (by omega)
    · by_cases c3 : y = i
      · rw [show rotF i m (m + 1) y = m by unfold rotF; rw [if_pos (by omega)]; omega]
        exact h1 _ (by omega) (by omega)
      · rw [show rotF i m (m + 1) y = y - 1 by unfold rotF; rw [if_neg (by omega), if_pos (by omega)]; omega]
        exact hT.left _ _ (by omega) (by omega) (by omega)
  · by_cases c3 : x = i
    · rw [show rotF i m (m + 1) x = m by unfold rotF; rw [if_pos (by omega)]; omega, show rotF i m (m + 1) y = y - 1 by unfold rotF; rw [if_neg (by omega), if_pos (by omega)]; omega]
      exact h2 _ (by omega) (by omega)
    · rw [show rotF i m (m + 1) x = x - 1 by unfold rotF; rw [if_neg (by omega), if_pos (by omega)]; omega, show rotF i m (m + 1) y = y - 1 by unfold rotF; rw [if_neg (by omega), if_pos (by omega)]; omega]
      exact hT.left _ _ (by omega) (by omega) (by omega)

/-- What the search leaves. -/
structure Cut (L : α → α → Prop) (a m b s e : Nat) (d : Array α) : Prop where
  sa : a ≤ s
  sm : s ≤ m
  me : m ≤ e
  eb : e ≤ b
  lo : ∀ x y, a ≤ x → x < s → e ≤ y → y < b → L d[x]! d[y]!
  hi : ∀ x y, m ≤ x → x < e → s ≤ y → y < m → L d[x]! d[y]!

theorem Cut.first (hT : TwoL lt L a m b d) {s e : Nat} (C : Cut L a m b s e d) (hb : b ≤ d.size) : TwoL lt L a s (s + (e - m)) (mkA d (rotF s m e)) := by
  obtain ⟨h1, h2, h3, h4, _, _⟩ := C
  have g : ∀ t, t < s → rotF s m e t = t := fun t ht => by unfold rotF; rw [if_neg (by omega), if_neg (by omega)]
  have g2 : ∀ t, s ≤ t → t < s + (e - m) → rotF s m e t = t + (m - s) := fun t ht ht2 => by unfold rotF; rw [if_pos (by omega)]
  refine ⟨fun i j hi hij hj => ?_, fun i j hi hij hj => ?_, fun i j hi him hj hjb => ?_⟩
  · rw [mkA_get d _ (by omega), mkA_get d _ (by omega), g _ (by omega), g _ hj]
    exact hT.left _ _ hi hij (by omega)
  · rw [mkA_get d _ (by omega), mkA_get d _ (by omega), g2 _ hi (by omega), g2 _ (by omega) hj]
    exact hT.right _ _ (by omega) (by omega) (by omega)
  · rw [mkA_get d _ (by omega), mkA_get d _ (by omega), g _ him, g2 _ hj hjb]
    exact hT.cross _ _ hi (by omega) (by omega) (by omega)
theorem Cut.last (hT : TwoL lt L a m b d) {s e : Nat} (C : Cut L a m b s e d) (hb : b ≤ d.size) : TwoL lt L (s + (e - m)) e b (mkA d (rotF s m e)) := by
  obtain ⟨h1, h2, h3, h4, _, _⟩ := C
  have g : ∀ t, e ≤ t → rotF s m e t = t := fun t ht => by unfold rotF; rw [if_neg (by omega), if_neg (by omega)]
  have g2 : ∀ t, s + (e - m) ≤ t → t < e → rotF s m e t = t - (e - m) := fun t ht ht2 => by unfold rotF; rw [if_neg (by omega), if_pos (by omega)]
  refine ⟨fun i j hi hij hj => ?_, fun i j hi hij hj => ?_, fun i j hi him hj hjb => ?_⟩
  · rw [mkA_get d _ (by omega), mkA_get d _ (by omega), g2 _ hi (by omega), g2 _ (by omega) hj]
    exact hT.left _ _ (by omega) (by omega) (by omega)
  · rw [mkA_get d _ (by omega), mkA_get d _ (by omega), g _ hi, g _ (by omega)]
    exact hT.right _ _ (by omega) hij hj
  · rw [mkA_get d _ (by omega), mkA_get d _ (by omega), g2 _ hi him, g _ hj]
    exact hT.cross _ _ (by omega) (by omega) (by omega) hjb
theorem Cut.apart (hT : TwoL lt L a m b d) {s e : Nat} (C : Cut L a m b s e d) (hb : b ≤ d.size) (x y : Nat) (hx : a ≤ x) (hx2 : x < s + (e - m)) (hy : s + (e - m) ≤ y) (hy2 : y < b) : L (mkA d (rotF s m e))[x]! (mkA d (rotF s m e))[y]! := by
  obtain ⟨h1, h2, h3, h4, h5, h6⟩ := C
  rw [mkA_get d _ (by omega), mkA_get d _ (by omega)]
  by_cases c1 : x < s
  · rw [show rotF s m e x = x by unfold rotF; rw [if_neg (by omega), if_neg (by omega)]]
    by_cases c2 : y < e
    · rw [show rotF s m e y = y - (e - m) by unfold rotF; rw [if_neg (by omega), if_pos (by omega)]]
      exact hT.left _ _ hx (by omega) (by omega)
    · rw [show rotF s m e y = y by unfold rotF; rw [if_neg (by omega), if_neg (by omega)]]
      exact h5 _ _ hx c1 (by omega) hy2
  · rw [show rotF s m e x = x + (m - s) by unfold rotF; rw [if_pos (by omega)]]
    by_cases c2 : y < e
    · rw [show rotF s m e y = y - (e - m) by unfold rotF; rw [if_neg (by omega), if_pos (by omega)]]
      exact h6 _ _ (by omega) (by omega) (by omega) (by omega)
    · rw [show rotF s m e y = y by unfold rotF; rw [if_neg (by omega), if_neg (by omega)]]
      exact hT.right _ _ (by omega) (by omega) hy2

/-- A row without the one part, or without the other one, rises. -/
theorem TwoL.whole (hT : TwoL lt L a m b d) (h : ¬ (a < m ∧ m < b)) (ha : a ≤ m) (hb : m ≤ b) : SortL L a b d := by
  by_cases c : a < m
  · have : m = b := by omega
    subst this
    exact hT.left
  · have : a = m := by omega
    subst this
    exact hT.right

/-- The two halves rise, and lie apart. -/
theorem SortL.join {d1 d2 : Array α} (hab : a ≤ m) (hmb : m ≤ b) (hb : b ≤ d.size) (hap : ∀ x y, a ≤ x → x < m → m ≤ y → y < b → L d[x]! d[y]!) (p1 : PermIn a m d d1) (s1 : SortL L a m d1) (p2 : PermIn m b d1 d2) (s2 : SortL L m b d2) : SortL L a b d2 ∧ PermIn a b d d2 := by
  have q1 : ∀ x, a ≤ x → x < m → ∀ y, m ≤ y → y < b → L d1[x]! d[y]! := permIn_all d d1 a m (fun v => ∀ y, m ≤ y → y < b → L v d[y]!) (by omega) p1 (fun x hx hx2 y hy hy2 => hap x y hx hx2 hy hy2)
  have hs1 := p1.1
  have q2 : ∀ x, a ≤ x → x < m → ∀ y, m ≤ y → y < b → L d1[x]! d2[y]! := fun x hx hx2 => permIn_all d1 d2 m b (fun v => L d1[x]! v) (by omega) p2 (fun y hy hy2 => by rw [p1.2.1 y (.inr hy)]; exact q1 x hx hx2 y hy hy2)
  refine ⟨fun x y hx hxy hy => ?_, permIn_trans _ _ _ _ _ (permIn_mono d d1 a m a b (Nat.le_refl _) hmb hb p1) (permIn_mono d1 d2 m b a b hab (Nat.le_refl _) (by omega) p2)⟩
  by_cases c1 : y < m
  · rw [p2.2.1 x (.inl (by omega)), p2.2.1 y (.inl c1)]
    exact s1 x y hx hxy c1
  · by_cases c2 : x < m
    · rw [p2.2.1 x (.inl c2)]
      exact q2 x hx c2 y (by omega) hy
    · exact s2 x y (by omega) hxy hy

/-- The search's two ends, in the great case. -/
theorem cut_of (tr : ∀ x y z, L x y → L y z → L x z) (hT : TwoL lt L a m b d) (ham : a < m) (hmb : m < b) {mid s0 r0 s : Nat} (hmid : mid = (a + b) / 2) (h0 : (mid < m ∧ s0 = mid + m - b ∧ r0 = mid) ∨ (m ≤ mid ∧ s0 = a ∧ r0 = m)) (hs0 : s0 ≤ s) (hr0 : s ≤ r0)
    (h1 : ∀ c, s0 ≤ c → c < s → L d[c]! d[mid + m - 1 - c]!) (h2 : ∀ c, s ≤ c → c < r0 → L d[mid + m - 1 - c]! d[c]!) : Cut L a m b s (mid + m - s) d ∧ s + (mid + m - s - m) = mid := by
  refine ⟨⟨by omega, by omega, by omega, by omega, fun x y hx hxs hy hyb => ?_, fun x y hx hxe hy hym => ?_⟩, by omega⟩
  · have e := h1 (s - 1) (by omega) (by omega)
    rw [show mid + m - 1 - (s - 1) = mid + m - s by omega] at e
    have e2 : L d[x]! d[mid + m - s]! := by
      by_cases c : x = s - 1
      · rw [c]; exact e
      · exact tr _ _ _ (hT.left x (s - 1) hx (by omega) (by omega)) e
    by_cases c : y = mid + m - s
    · rw [c]; exact e2
    · exact tr _ _ _ e2 (hT.right _ _ (by omega) (by omega) hyb)
  · have e := h2 s (Nat.le_refl _) (by omega)
    have e2 : L d[x]! d[s]! := by
      by_cases c : x = mid + m - 1 - s
      · rw [c]; exact e
      · exact tr _ _ _ (hT.right x (mid + m - 1 - s) hx (by omega) (by omega)) e
    by_cases c : y = s
    · rw [c]; exact e2
    · exact tr _ _ _ e2 (hT.left _ _ (by omega) (by omega) hym)

end

variable {P : Program} {α : Type} [Inhabited α]

/-- What is known of the types that these bodies name. -/
structure StabT (P : Program) : Prop where
  mixed : P.follows .mixedOrders = true
  t0 : P.underlying 0 = some (TypeDesc.tuple #[])
  a0 : ∀ w, (isAgg 0).run P w = .ok false w
  z0 : ∀ w, (Go.sizeOf 0).run P w = .ok 1 w
  v0 : ∀ w, (zeroValue 0).run P w = .ok (Value.tuple #[]) w
  t3 : P.underlying 3 = some (TypeDesc.int IntKind.i64)
  a3 : ∀ w, (isAgg 3).run P w = .ok false w
  z3 : ∀ w, (Go.sizeOf 3).run P w = .ok 1 w
  v3 : ∀ w, (zeroValue 3).run P w = .ok (Value.int IntKind.i64 0) w
  t4 : P.underlying 4 = some (TypeDesc.bool)
  a4 : ∀ w, (isAgg 4).run P w = .ok false w
  z4 : ∀ w, (Go.sizeOf 4).run P w = .ok 1 w
  v4 : ∀ w, (zeroValue 4).run P w = .ok (Value.bool false) w
  t22 : P.underlying 64 = some (TypeDesc.slice 67)
  a22 : ∀ w, (isAgg 64).run P w = .ok false w
  z22 : ∀ w, (Go.sizeOf 64).run P w = .ok 1 w
  v22 : ∀ w, (zeroValue 64).run P w = .ok (Value.slice none 0 0) w
  t25 : P.underlying 102 = some (TypeDesc.func #[67, 67] #[3] false)
  a25 : ∀ w, (isAgg 102).run P w = .ok false w
  z25 : ∀ w, (Go.sizeOf 102).run P w = .ok 1 w
  v25 : ∀ w, (zeroValue 102).run P w = .ok (Value.nilFunc) w
  t39 : P.underlying 106 = some (TypeDesc.int IntKind.u64)
  a39 : ∀ w, (isAgg 106).run P w = .ok false w
  z39 : ∀ w, (Go.sizeOf 106).run P w = .ok 1 w
  v39 : ∀ w, (zeroValue 106).run P w = .ok (Value.int IntKind.u64 0) w

set_option maxHeartbeats 4000000 in
set_option maxRecDepth 1000000 in
/-- n places from a on are exchanged with n from b on. -/
theorem kSwr_any (L : StabT P) (FG : P.funcs[150]? = some Tryz.f150) (k : Nat) (aE : ∀ w, (isAgg 67).run P w = .ok true w) (zE : ∀ w, (Go.sizeOf 67).run P w = .ok k w) (enc : α → List Value) (fv : Value) (blk off cap a b n : Nat) (d0 d : Array α) (w0 w : World)
    (R : RowK enc k w0 blk off d0) (hs : d0.size = d.size) (S : SWK enc k w0 blk off d w) (hab : a + n ≤ b) (hb : b + n ≤ d.size) (hsz : d.size < 4611686018427387904) :
    Calls P 150 #[.slice (some ⟨blk, off, none⟩) d.size cap, .int .i64 a, .int .i64 b, .int .i64 n, fv] w fun e w' => e = .returned (.tuple #[]) ∧ SWK enc k w0 blk off (mkA d (swrF a b n)) w' := by
  have mixed := L.mixed; have t0 := L.t0; have a0 := L.a0; have z0 := L.z0; have v0 := L.v0; have t3 := L.t3; have a3 := L.a3; have z3 := L.z3; have v3 := L.v3; have t4 := L.t4; have a4 := L.a4; have z4 := L.z4; have v4 := L.v4; have t22 := L.t22; have a22 := L.a22; have z22 := L.z22; have v22 := L.v22; have t25 := L.t25; have a25 := L.a25; have z25 := L.z25; have v25 := L.v25
  have S0 : Aside (SWK enc k w0 blk off d w) := S
  clear S
  go_enter FG, Tryz.ntmps150
  go_wp2
  go_loopg [10] n (fun kx s10 wr => ∃ (i : Nat) (dk : Array α), s10 = .int .i64 i ∧ i ≤ n ∧ n - i ≤ kx ∧ dk.size = d.size ∧ Aside (SWK enc k w0 blk off dk wr) ∧ Aside (dk = mkA d (swrF a b i)))
  case atStart => exact ⟨0, d, rfl, Nat.zero_le _, Nat.le_refl _, rfl, S0, (swr_zero d a b).symm⟩
  case round =>
    clear S0
    obtain ⟨i, dk, rfl, hin, hkx, hds, S1, HE⟩ := hrel
    by_cases hlt : i < n
    · have hltz : (i : Int) < (n : Int) := by omega
      go_wp2_with fail
      have ea44 : ((a : Int) + (i : Int)).toNat = a + i := by omega
      have pa44 : (0 : Int) ≤ (a : Int) + (i : Int) := by omega
      have ba44 : (a : Int) + (i : Int) < (d.size : Int) := by omega
      have ra44 : IntKind.i64.wrap ((a : Int) + (i : Int)) = (a : Int) + (i : Int) := by rw [IntKind.wrap_i64]; omega
      have ec44 : ((b : Int) + (i : Int)).toNat = b + i := by omega
      have pc44 : (0 : Int) ≤ (b : Int) + (i : Int) := by omega
      have bc44 : (b : Int) + (i : Int) < (d.size : Int) := by omega
      have rc44 : IntKind.i64.wrap ((b : Int) + (i : Int)) = (b : Int) + (i : Int) := by rw [IntKind.wrap_i64]; omega
      have S2 : Aside (SWK enc k w0 blk off (swp dk (a + i) (b + i)) ((wr.drew.setCells blk (off + (a + i) * k) (enc dk[b + i]!)).setCells blk (off + (b + i) * k) (enc dk[a + i]!))) := S1.out.swapped R (a + i) (b + i) (by omega) (by omega)
      have l44a := S1.out.ld1 R (by omega) P (a + i) (by omega)
      have l44b := S1.out.ld1 R (by omega) P (b + i) (by omega)
      have s44a := S1.out.st1 R (by omega) P (a + i) (by omega) dk[b + i]!
      have s44b := S1.out.st2 R (by omega) P (a + i) (b + i) (by omega) (by omega) dk[b + i]! dk[a + i]!
      have n44a : (enc dk[a + i]!).length = k := R.hk _
      have n44b : (enc dk[b + i]!).length = k := R.hk _
      generalize enc dk[a + i]! = cI44 at S2 l44a s44b n44a
      generalize enc dk[b + i]! = cJ44 at S2 l44b s44a s44b n44b
      clear S1
      go_wp2_with fail
      go_big_region_o
      clear l44a l44b s44a s44b
      generalize (wr.drew.setCells blk (off + (a + i) * k) cJ44).setCells blk (off + (b + i) * k) cI44 = w2 at S2 ⊢
      go_wp2
      go_roundg (n - (i + 1))
      case measure => omega
      case rel => exact ⟨i + 1, swp dk (a + i) (b + i), by go_num, by omega, Nat.le_refl _, by rw [size_swp]; exact hds, S2, by show _ = _; rw [HE.out]; exact swr_step d (by omega) (by omega)⟩
    · have hltz : ¬ (i : Int) < (n : Int) := by omega
      obtain rfl : i = n := by omega
      go_wp2
      go_end0
      exact ⟨rfl, by rw [← HE.out]; exact S1.out⟩

set_option maxHeartbeats 4000000 in
set_option maxRecDepth 1000000 in
/-- [a, m) and [m, b), the other way. -/
theorem kRot_any (L : StabT P) (FW : P.funcs[150]? = some Tryz.f150) (FG : P.funcs[133]? = some Tryz.f133) (k : Nat) (aE : ∀ w, (isAgg 67).run P w = .ok true w) (zE : ∀ w, (Go.sizeOf 67).run P w = .ok k w) (enc : α → List Value) (fv : Value) (blk off cap a m b : Nat) (d0 d : Array α) (w0 w : World)
    (e91 : ∀ args w, (callFunc 150 args).run P w = .ok (.enter 150 args) w) (R : RowK enc k w0 blk off d0) (hs : d0.size = d.size) (S : SWK enc k w0 blk off d w) (ham : a < m) (hmb : m < b) (hb : b ≤ d.size) (hsz : d.size < 4611686018427387904) :
    Calls P 133 #[.slice (some ⟨blk, off, none⟩) d.size cap, .int .i64 a, .int .i64 m, .int .i64 b, fv] w fun e w' => e = .returned (.tuple #[]) ∧ SWK enc k w0 blk off (mkA d (rotF a m b)) w' := by
  have mixed := L.mixed; have t0 := L.t0; have a0 := L.a0; have z0 := L.z0; have v0 := L.v0; have t3 := L.t3; have a3 := L.a3; have z3 := L.z3; have v3 := L.v3; have t4 := L.t4; have a4 := L.a4; have z4 := L.z4; have v4 := L.v4; have t22 := L.t22; have a22 := L.a22; have z22 := L.z22; have v22 := L.v22; have t25 := L.t25; have a25 := L.a25; have z25 := L.z25; have v25 := L.v25
  have S0 : Aside (SWK enc k w0 blk off d w) := S
  have HSW : Aside (∀ (a b n : Nat) (dk : Array α) (w : World), dk.size = d.size → SWK enc k w0 blk off dk w → a + n ≤ b → b + n ≤ d.size → Calls P 150 #[.slice (some ⟨blk, off, none⟩) d.size cap, .int .i64 a, .int .i64 b, .int .i64 n, fv] w fun e w' => e = .returned (.tuple #[]) ∧ SWK enc k w0 blk off (mkA dk (swrF a b n)) w') :=
    fun a b n dk w h1 h2 h3 h4 => by rw [← h1]; exact kSwr_any L FW k aE zE enc fv blk off cap a b n d0 dk w0 w R (by omega) h2 h3 (by omega) (by omega)
  clear S FW R
  go_enter FG, Tryz.ntmps133
  go_wp2
  go_loopg [10, 11] (b - a) (fun kx s10 s11 wr => ∃ (i j : Nat) (dk : Array α), s10 = .int .i64 i ∧ s11 = .int .i64 j ∧ 0 < i ∧ 0 < j ∧ i ≤ m ∧ m + j ≤ d.size ∧ i + j ≤ kx ∧ dk.size = d.size ∧ Aside (SWK enc k w0 blk off dk wr) ∧ Aside (mkA dk (rotF (m - i) m (m + j)) = mkA d (rotF a m b)))
  case atStart => exact ⟨m - a, b - m, d, by go_num, by go_num, by omega, by omega, by omega, by omega, by omega, rfl, S0, by show _ = _; rw [show m - (m - a) = a by omega, show m + (b - m) = b by omega]⟩
  case round =>
    clear S0
    obtain ⟨i, j, dk, rfl, rfl, hi, hj, him, hmj, hkx, hds, S1, HE⟩ := hrel
    have w1 : IntKind.i64.wrap ((m : Int) - (i : Int)) = ((m - i : Nat) : Int) := by rw [IntKind.wrap_i64]; omega
    have w2 : IntKind.i64.wrap ((m : Int) + (j : Int)) = (m : Int) + (j : Int) := by rw [IntKind.wrap_i64]; omega
    have w3 : IntKind.i64.wrap ((m : Int) + (j : Int) - (i : Int)) = ((m + j - i : Nat) : Int) := by rw [IntKind.wrap_i64]; omega
    by_cases heq : i = j
    · subst heq
      have HC' := Lib.hid (HSW.out (m - i) m i dk wr hds S1.out (by omega) (by omega))
      go_wp2_with (go_at_call 150; refine HC'.out.mono ?_; rintro e w4 ⟨rfl, S4⟩)
      go_end0
      exact ⟨rfl, by rw [← HE.out, ← rot_eq dk him]; exact S4⟩
    · have hne : ((i : Int) != (j : Int)) = true := by rw [bne_iff_ne]; omega
      have hne2 : ¬ (i : Int) = (j : Int) := by omega
      by_cases hgt : j < i
      · have hgz : (j : Int) < (i : Int) := by omega
        have HC' := Lib.hid (HSW.out (m - i) m j dk wr hds S1.out (by omega) (by omega))
        go_wp2_with (go_at_call 150; refine HC'.out.mono ?_; rintro e w4 ⟨rfl, S4⟩)
        go_roundg (i - j + j)
        case measure => omega
        case rel => exact ⟨i - j, j, _, by go_num, rfl, by omega, hj, by omega, hmj, Nat.le_refl _, by rw [mkA_size]; exact hds, S4, by show _ = _; rw [← HE.out]; exact rot_gt dk him (by omega) hgt⟩
      · have hgz : ¬ (j : Int) < (i : Int) := by omega
        have HC' := Lib.hid (HSW.out (m - i) (m + j - i) i dk wr hds S1.out (by omega) (by omega))
        go_wp2_with (go_at_call 150; refine HC'.out.mono ?_; rintro e w4 ⟨rfl, S4⟩)
        go_roundg (i + (j - i))
        case measure => omega
        case rel => exact ⟨i, j - i, _, rfl, by go_num, hi, by omega, him, by omega, Nat.le_refl _, by rw [mkA_size]; exact hds, S4, by show _ = _; rw [← HE.out]; exact rot_lt dk him (by omega) (by omega)⟩

end Go.Proofs.YtmanjegdgjeeiaaGreatDoor
