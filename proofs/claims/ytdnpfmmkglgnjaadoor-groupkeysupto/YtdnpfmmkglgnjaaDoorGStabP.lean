/-
  Plain: rows that are put together out of two sorted ones, by rotations (what a stable sort of the library does).
-/
import Derived.Sort.LotA
namespace Go.Proofs.YtdnpfmmkglgnjaaDoor
open Go.Sort
variable {α : Type} [Inhabited α]

/-- A row whose places are taken from another one's. -/
def mkA (d : Array α) (f : Nat → Nat) : Array α := Array.ofFn (n := d.size) fun i => d[f i.1]!
theorem mkA_size (d : Array α) (f : Nat → Nat) : (mkA d f).size = d.size := by simp [mkA]
theorem mkA_get (d : Array α) (f : Nat → Nat) {i : Nat} (h : i < d.size) : (mkA d f)[i]! = d[f i]! := by
  rw [getElem!_pos (mkA d f) i (by rw [mkA_size]; exact h)]
  simp [mkA]
theorem arrE {d d' : Array α} (hs : d.size = d'.size) (h : ∀ i, i < d.size → d[i]! = d'[i]!) : d = d' := by
  apply Array.ext hs
  intro i h1 h2
  have := h i h1
  rwa [getElem!_pos d i h1, getElem!_pos d' i h2] at this
theorem mkA_id {d : Array α} {f : Nat → Nat} (h : ∀ i, i < d.size → f i = i) : mkA d f = d :=
  arrE (mkA_size _ _) fun i hi => by rw [mkA_size] at hi; rw [mkA_get d f hi, h i hi]
theorem mkA_congr {d : Array α} {f g : Nat → Nat} (h : ∀ i, i < d.size → f i = g i) : mkA d f = mkA d g :=
  arrE (by simp [mkA_size]) fun i hi => by rw [mkA_size] at hi; rw [mkA_get d f hi, mkA_get d g hi, h i hi]
theorem mkA_mkA {d : Array α} {f g h : Nat → Nat} (hg : ∀ i, i < d.size → g i < d.size) (hh : ∀ i, i < d.size → f (g i) = h i) : mkA (mkA d f) g = mkA d h :=
  arrE (by simp [mkA_size]) fun i hi => by
    rw [mkA_size, mkA_size] at hi
    rw [mkA_get _ g (by rw [mkA_size]; exact hi), mkA_get d f (hg i hi), mkA_get d h hi, hh i hi]
theorem swp_mkA {d : Array α} {f h : Nat → Nat} {x y : Nat} (hx : x < d.size) (hy : y < d.size) (hh : ∀ i, i < d.size → (if i = y then f x else if i = x then f y else f i) = h i) : swp (mkA d f) x y = mkA d h :=
  arrE (by simp [mkA_size, size_swp]) fun i hi => by
    rw [size_swp, mkA_size] at hi
    rw [swp_get (mkA d f) (by rw [mkA_size]; exact hx) (by rw [mkA_size]; exact hy), mkA_get d h hi, ← hh i hi, mkA_get d f hx, mkA_get d f hy, mkA_get d f hi]
    split
    · rfl
    · split <;> rfl

/-- Where what stands at a place stood: [a, m) and [m, b) put one behind the other the other way. -/
def rotF (a m b t : Nat) : Nat := if a ≤ t ∧ t < a + (b - m) then t + (m - a) else if a + (b - m) ≤ t ∧ t < b then t - (b - m) else t
/-- The same where n places from a on and n from b on are exchanged. -/
def swrF (a b n t : Nat) : Nat := if a ≤ t ∧ t < a + n then t - a + b else if b ≤ t ∧ t < b + n then t - b + a else t

theorem swr_zero (d : Array α) (a b : Nat) : mkA d (swrF a b 0) = d := mkA_id fun i _ => by unfold swrF; repeat' split
                                                                                            all_goals omega
theorem swr_step (d : Array α) {a b n : Nat} (h : a + n < b) (hb : b + n < d.size) : swp (mkA d (swrF a b n)) (a + n) (b + n) = mkA d (swrF a b (n + 1)) :=
  swp_mkA (by omega) hb fun i _ => by
    unfold swrF
    repeat' split
    all_goals omega
theorem rot_gt (d : Array α) {m i j : Nat} (hi : i ≤ m) (hb : m + j ≤ d.size) (hij : j < i) : mkA (mkA d (swrF (m - i) m j)) (rotF (m - (i - j)) m (m + j)) = mkA d (rotF (m - i) m (m + j)) :=
  mkA_mkA (fun t ht => by unfold rotF; repeat' split
                          all_goals omega) fun t ht => by
    unfold swrF rotF
    repeat' split
    all_goals omega
theorem rot_lt (d : Array α) {m i j : Nat} (hi : i ≤ m) (hb : m + j ≤ d.size) (hij : i < j) : mkA (mkA d (swrF (m - i) (m + j - i) i)) (rotF (m - i) m (m + (j - i))) = mkA d (rotF (m - i) m (m + j)) :=
  mkA_mkA (fun t ht => by unfold rotF; repeat' split
                          all_goals omega) fun t ht => by
    unfold swrF rotF
    repeat' split
    all_goals omega
theorem rot_eq (d : Array α) {m i : Nat} (hi : i ≤ m) : mkA d (swrF (m - i) m i) = mkA d (rotF (m - i) m (m + i)) :=
  mkA_congr fun t ht => by
    unfold swrF rotF
    repeat' split
    all_goals omega
theorem rot_none (d : Array α) {a m b : Nat} (h : a = m ∨ b = m) (ha : a ≤ m) (hb : m ≤ b) : mkA d (rotF a m b) = d := mkA_id fun i _ => by
  unfold rotF
  repeat' split
  all_goals omega
theorem rot_up (d : Array α) {a k : Nat} (hk : a ≤ k) (hb : k + 1 < d.size) : swp (mkA d (rotF a (a + 1) (k + 1))) k (k + 1) = mkA d (rotF a (a + 1) (k + 2)) :=
  swp_mkA (by omega) hb fun i _ => by
    unfold rotF
    repeat' split
    all_goals omega
theorem rot_down (d : Array α) {k m : Nat} (hk : k + 1 ≤ m) (hb : m < d.size) : swp (mkA d (rotF (k + 1) m (m + 1))) (k + 1) k = mkA d (rotF k m (m + 1)) :=
  swp_mkA (by omega) (by omega) fun i _ => by
    unfold rotF
    repeat' split
    all_goals omega

theorem rot_perm (d : Array α) {a m b : Nat} (ha : a ≤ m) (hm : m ≤ b) (hb : b ≤ d.size) : PermIn a b d (mkA d (rotF a m b)) := by
  refine ⟨mkA_size _ _, fun i hi => ?_, ?_⟩
  · by_cases h : i < d.size
    · rw [mkA_get d _ h]
      congr 1
      unfold rotF
      repeat' split
      all_goals omega
    · rw [getElem!_neg (mkA d (rotF a m b)) i (by rw [mkA_size]; exact h), getElem!_neg d i h]
  · rw [extract_toList _ a b (by rw [mkA_size]; exact hb), extract_toList d a b hb]
    have e1 : List.range' a (b - a) = List.range' a (b - m) ++ List.range' (a + (b - m)) (m - a) := by
      rw [show b - a = (b - m) + (m - a) by omega, ← List.range'_append_1]
    have e2 : List.range' a (b - a) = List.range' a (m - a) ++ List.range' m (b - m) := by
      have := List.range'_append_1 (s := a) (m := m - a) (n := b - m)
      rw [show a + (m - a) = m by omega, show m - a + (b - m) = b - a by omega] at this
      exact this.symm
    conv => lhs; rw [e1]
    conv => rhs; rw [e2]
    rw [List.map_append, List.map_append]
    have f1 : (List.range' a (b - m)).map (fun i => (mkA d (rotF a m b))[i]!) = (List.range' m (b - m)).map (fun i => d[i]!) := by
      apply List.ext_getElem (by simp)
      intro t h1 h2
      simp only [List.length_map, List.length_range'] at h1
      simp only [List.getElem_map, List.getElem_range', Nat.one_mul]
      rw [mkA_get d _ (by omega)]
      congr 1
      unfold rotF
      repeat' split
      all_goals omega
    have f2 : (List.range' (a + (b - m)) (m - a)).map (fun i => (mkA d (rotF a m b))[i]!) = (List.range' a (m - a)).map (fun i => d[i]!) := by
      apply List.ext_getElem (by simp)
      intro t h1 h2
      simp only [List.length_map, List.length_range'] at h1
      simp only [List.getElem_map, List.getElem_range', Nat.one_mul]
      rw [mkA_get d _ (by omega)]
      congr 1
      unfold rotF
      repeat' split
      all_goals omega
    rw [f1, f2]
    exact List.perm_append_comm

/-- Rising by L. -/
def SortL (L : α → α → Prop) (a b : Nat) (d : Array α) : Prop := ∀ i j, a ≤ i → i < j → j < b → L d[i]! d[j]!
/-- Two rows, each rising, and between them L is what is asked. -/
structure TwoL (lt : α → α → Bool) (L : α → α → Prop) (a m b : Nat) (d : Array α) : Prop where
  left : SortL L a m d
  right : SortL L m b d
  cross : ∀ i j, a ≤ i → i < m → m ≤ j → j < b → (lt d[j]! d[i]! = true → L d[j]! d[i]!) ∧ (lt d[j]! d[i]! = false → L d[i]! d[j]!)
variable {lt : α → α → Bool} {L : α → α → Prop} {d : Array α} {a m b : Nat}

theorem one_left (hT : TwoL lt L a (a + 1) b d) {i : Nat} (hi : a + 1 ≤ i) (hib : i ≤ b) (hb : b ≤ d.size) (h1 : ∀ h, a + 1 ≤ h → h < i → L d[h]! d[a]!) (h2 : ∀ h, i ≤ h → h < b → L d[a]! d[h]!) : SortL L a b (mkA d (rotF a (a + 1) i)) := by
  intro x y hx hxy hy
  rw [mkA_get d _ (by omega), mkA_get d _ (by omega)]
  by_cases c1 : x < i - 1
  · rw [show rotF a (a + 1) i x = x + 1 by unfold rotF; rw [if_pos (by omega)]; omega]
    by_cases c2 : y < i - 1
    · rw [show rotF a (a + 1) i y = y + 1 by unfold rotF; rw [if_pos (by omega)]; omega]
      exact hT.right _ _ (by omega) (by omega) (by omega)
    · by_cases c3 : y = i - 1
      · rw [show rotF a (a + 1) i y = a by unfold rotF; rw [if_neg (by omega), if_pos (by omega)]; omega]
        exact h1 _ (by omega) (by omega)
      · rw [show rotF a (a + 1) i y = y by unfold rotF; rw [if_neg (by omega), if_neg (by omega)]]
        exact hT.right _ _ (by omega) (by omega) (by omega)
  · by_cases c3 : x = i - 1
    · rw [show rotF a (a + 1) i x = a by unfold rotF; rw [if_neg (by omega), if_pos (by omega)]; omega, show rotF a (a + 1) i y = y by unfold rotF; rw [if_neg (by omega), if_neg (by omega)]]
      exact h2 _ (by omega) (by omega)
    · rw [show rotF a (a + 1) i x = x by unfold rotF; rw [if_neg (by omega), if_neg (by omega)], show rotF a (a + 1) i y = y by unfold rotF; rw [if_neg (by omega), if_neg (by omega)]]
      exact hT.right _ _ (by omega) (by omega) (by omega)

theorem one_right (hT : TwoL lt L a m (m + 1) d) {i : Nat} (hi : a ≤ i) (him : i ≤ m) (hb : m < d.size) (h1 : ∀ h, a ≤ h → h < i → L d[h]! d[m]!) (h2 : ∀ h, i ≤ h → h < m → L d[m]! d[h]!) : SortL L a (m + 1) (mkA d (rotF i m (m + 1))) := by
  intro x y hx hxy hy
  rw [mkA_get d _ (by omega), mkA_get d _ (by omega)]
  by_cases c1 : x < i
  · rw [show rotF i m (m + 1) x = x by unfold rotF; rw [if_neg (by omega), if_neg (by omega)]]
    by_cases c2 : y < i
    · rw [show rotF i m (m + 1) y = y by unfold rotF; rw [if_neg (by omega), if_neg (by omega)]]
      exact hT.left _ _ (by omega) (by omega) (by omega)
    · by_cases c3 : y = i
      · rw [show rotF i m (m + 1) y = m by unfold rotF; rw [if_pos (by omega)]; omega]
        exact h1 _ (by omega) (by omega)
      · rw [show rotF i m (m + 1) y = y - 1 by unfold rotF; rw [if_neg (by omega), if_pos (by omega)]; omega]
        exact hT.left _ _ (by omega) (by omega) (by omega)
  · by_cases c3 : x = i
    · rw [show rotF i m (m + 1) x = m by unfold rotF; rw [if_pos (by omega)]; omega, show rotF i m (m + 1) y = y - 1 by unfold rotF; rw [if_neg (by omega), if_pos (by omega)]; omega]
      exact h2 _ (by omega) (by omega)
    · rw [show rotF i m (m + 1) x = x - 1 by unfold rotF; rw [if_neg (by omega), if_pos (by omega)]; omega, show rotF i m (m + 1) y = y - 1 by unfold rotF; rw [if_neg (by omega), if_pos (by omega)]; omega]
      exact hT.left _ _ (by omega) (by omega) (by omega)

/-- What the search leaves. -/
structure Cut (L : α → α → Prop) (a m b s e : Nat) (d : Array α) : Prop where
  as : a ≤ s
  sm : s ≤ m
  me : m ≤ e
  eb : e ≤ b
  lo : ∀ x y, a ≤ x → x < s → e ≤ y → y < b → L d[x]! d[y]!
  hi : ∀ x y, m ≤ x → x < e → s ≤ y → y < m → L d[x]! d[y]!

theorem Cut.first (hT : TwoL lt L a m b d) {s e : Nat} (C : Cut L a m b s e d) (hb : b ≤ d.size) : TwoL lt L a s (s + (e - m)) (mkA d (rotF s m e)) := by
  obtain ⟨h1, h2, h3, h4, _, _⟩ := C
  have g : ∀ t, t < s → rotF s m e t = t := fun t ht => by unfold rotF; rw [if_neg (by omega), if_neg (by omega)]
  have g2 : ∀ t, s ≤ t → t < s + (e - m) → rotF s m e t = t + (m - s) := fun t ht ht2 => by unfold rotF; rw [if_pos (by omega)]
  refine ⟨fun i j hi hij hj => ?_, fun i j hi hij hj => ?_, fun i j hi him hj hjb => ?_⟩
  · rw [mkA_get d _ (by omega), mkA_get d _ (by omega), g _ (by omega), g _ hj]
    exact hT.left _ _ hi hij (by omega)
  · rw [mkA_get d _ (by omega), mkA_get d _ (by omega), g2 _ hi (by omega), g2 _ (by omega) hj]
    exact hT.right _ _ (by omega) (by omega) (by omega)
  · rw [mkA_get d _ (by omega), mkA_get d _ (by omega), g _ him, g2 _ hj hjb]
    exact hT.cross _ _ hi (by omega) (by omega) (by omega)
theorem Cut.last (hT : TwoL lt L a m b d) {s e : Nat} (C : Cut L a m b s e d) (hb : b ≤ d.size) : TwoL lt L (s + (e - m)) e b (mkA d (rotF s m e)) := by
  obtain ⟨h1, h2, h3, h4, _, _⟩ := C
  have g : ∀ t, e ≤ t → rotF s m e t = t := fun t ht => by unfold rotF; rw [if_neg (by omega), if_neg (by omega)]
  have g2 : ∀ t, s + (e - m) ≤ t → t < e → rotF s m e t = t - (e - m) := fun t ht ht2 => by unfold rotF; rw [if_neg (by omega), if_pos (by omega)]
  refine ⟨fun i j hi hij hj => ?_, fun i j hi hij hj => ?_, fun i j hi him hj hjb => ?_⟩
  · rw [mkA_get d _ (by omega), mkA_get d _ (by omega), g2 _ hi (by omega), g2 _ (by omega) hj]
    exact hT.left _ _ (by omega) (by omega) (by omega)
  · rw [mkA_get d _ (by omega), mkA_get d _ (by omega), g _ hi, g _ (by omega)]
    exact hT.right _ _ (by omega) hij hj
  · rw [mkA_get d _ (by omega), mkA_get d _ (by omega), g2 _ hi him, g _ hj]
    exact hT.cross _ _ (by omega) (by omega) (by omega) hjb
theorem Cut.apart (hT : TwoL lt L a m b d) {s e : Nat} (C : Cut L a m b s e d) (hb : b ≤ d.size) (x y : Nat) (hx : a ≤ x) (hx2 : x < s + (e - m)) (hy : s + (e - m) ≤ y) (hy2 : y < b) : L (mkA d (rotF s m e))[x]! (mkA d (rotF s m e))[y]! := by
  obtain ⟨h1, h2, h3, h4, h5, h6⟩ := C
  rw [mkA_get d _ (by omega), mkA_get d _ (by omega)]
  by_cases c1 : x < s
  · rw [show rotF s m e x = x by unfold rotF; rw [if_neg (by omega), if_neg (by omega)]]
    by_cases c2 : y < e
    · rw [show rotF s m e y = y - (e - m) by unfold rotF; rw [if_neg (by omega), if_pos (by omega)]]
      exact hT.left _ _ hx (by omega) (by omega)
    · rw [show rotF s m e y = y by unfold rotF; rw [if_neg (by omega), if_neg (by omega)]]
      exact h5 _ _ hx c1 (by omega) hy2
  · rw [show rotF s m e x = x + (m - s) by unfold rotF; rw [if_pos (by omega)]]
    by_cases c2 : y < e
    · rw [show rotF s m e y = y - (e - m) by unfold rotF; rw [if_neg (by omega), if_pos (by omega)]]
      exact h6 _ _ (by omega) (by omega) (by omega) (by omega)
    · rw [show rotF s m e y = y by unfold rotF; rw [if_neg (by omega), if_neg (by omega)]]
      exact hT.right _ _ (by omega) (by omega) hy2

/-- A row without the one part, or without the other one, rises. -/
theorem TwoL.whole (hT : TwoL lt L a m b d) (h : ¬ (a < m ∧ m < b)) (ha : a ≤ m) (hb : m ≤ b) : SortL L a b d := by
  by_cases c : a < m
  · have : m = b := by omega
    subst this
    exact hT.left
  · have : a = m := by omega
    subst this
    exact hT.right

/-- The two halves rise, and lie apart. -/
theorem SortL.join {d1 d2 : Array α} (hab : a ≤ m) (hmb : m ≤ b) (hb : b ≤ d.size) (hap : ∀ x y, a ≤ x → x < m → m ≤ y → y < b → L d[x]! d[y]!) (p1 : PermIn a m d d1) (s1 : SortL L a m d1) (p2 : PermIn m b d1 d2) (s2 : SortL L m b d2) : SortL L a b d2 ∧ PermIn a b d d2 := by
  have q1 : ∀ x, a ≤ x → x < m → ∀ y, m ≤ y → y < b → L d1[x]! d[y]! := permIn_all d d1 a m (fun v => ∀ y, m ≤ y → y < b → L v d[y]!) (by omega) p1 (fun x hx hx2 y hy hy2 => hap x y hx hx2 hy hy2)
  have hs1 := p1.1
  have q2 : ∀ x, a ≤ x → x < m → ∀ y, m ≤ y → y < b → L d1[x]! d2[y]! := fun x hx hx2 => permIn_all d1 d2 m b (fun v => L d1[x]! v) (by omega) p2 (fun y hy hy2 => by rw [p1.2.1 y (.inr hy)]; exact q1 x hx hx2 y hy hy2)
  refine ⟨fun x y hx hxy hy => ?_, permIn_trans _ _ _ _ _ (permIn_mono d d1 a m a b (Nat.le_refl _) hmb hb p1) (permIn_mono d1 d2 m b a b hab (Nat.le_refl _) (by omega) p2)⟩
  by_cases c1 : y < m
  · rw [p2.2.1 x (.inl (by omega)), p2.2.1 y (.inl c1)]
    exact s1 x y hx hxy c1
  · by_cases c2 : x < m
    · rw [p2.2.1 x (.inl c2)]
      exact q2 x hx c2 y (by omega) hy
    · exact s2 x y (by omega) hxy hy

/-- The search's two ends, in the great case. -/
theorem cut_of (tr : ∀ x y z, L x y → L y z → L x z) (hT : TwoL lt L a m b d) (ham : a < m) (hmb : m < b) {mid s0 r0 s : Nat} (hmid : mid = (a + b) / 2) (h0 : (mid < m ∧ s0 = mid + m - b ∧ r0 = mid) ∨ (m ≤ mid ∧ s0 = a ∧ r0 = m)) (hs0 : s0 ≤ s) (hr0 : s ≤ r0)
    (h1 : ∀ c, s0 ≤ c → c < s → L d[c]! d[mid + m - 1 - c]!) (h2 : ∀ c, s ≤ c → c < r0 → L d[mid + m - 1 - c]! d[c]!) : Cut L a m b s (mid + m - s) d ∧ s + (mid + m - s - m) = mid := by
  refine ⟨⟨by omega, by omega, by omega, by omega, fun x y hx hxs hy hyb => ?_, fun x y hx hxe hy hym => ?_⟩, by omega⟩
  · have e := h1 (s - 1) (by omega) (by omega)
    rw [show mid + m - 1 - (s - 1) = mid + m - s by omega] at e
    have e2 : L d[x]! d[mid + m - s]! := by
      by_cases c : x = s - 1
      · rw [c]; exact e
      · exact tr _ _ _ (hT.left x (s - 1) hx (by omega) (by omega)) e
    by_cases c : y = mid + m - s
    · rw [c]; exact e2
    · exact tr _ _ _ e2 (hT.right _ _ (by omega) (by omega) hyb)
  · have e := h2 s (Nat.le_refl _) (by omega)
    have e2 : L d[x]! d[s]! := by
      by_cases c : x = mid + m - 1 - s
      · rw [c]; exact e
      · exact tr _ _ _ (hT.right x (mid + m - 1 - s) hx (by omega) (by omega)) e
    by_cases c : y = s
    · rw [c]; exact e2
    · exact tr _ _ _ e2 (hT.left _ _ (by omega) (by omega) hym)

end Go.Proofs.YtdnpfmmkglgnjaaDoor
