/-
  What the library's stable sort does at a row of at most forty: it is put into rising order, those that are alike in the order in which they stood.
-/
import Derived.Test.YtdnpfmmkglgnjaaDoorGSym
import Derived.Test.YtdnpfmmkglgnjaaDoorGShelf
import Derived.Shelf.SlSortCmp.NoneTotal
namespace Go.Proofs.YtdnpfmmkglgnjaaDoor
open Go.Shelf Go.RowKit Go.Lib Go.Sort
variable {P : Program} {α : Type} [Inhabited α]

/-- Those that are alike stand in the order of their numbers. -/
def StabL (lt : α × Nat → α × Nat → Bool) (a b : Nat) (d : Array (α × Nat)) : Prop := ∀ i j, a ≤ i → i < j → j < b → lt d[i]! d[j]! = false → lt d[j]! d[i]! = false → d[i]!.2 < d[j]!.2
theorem swp_stab {lt : α × Nat → α × Nat → Bool} {a b j : Nat} {d : Array (α × Nat)} (h : StabL lt a b d) (hj : a ≤ j) (hjb : j + 1 < b) (hb : b ≤ d.size) (hl : lt d[j + 1]! d[j]! = true) : StabL lt a b (swp d (j + 1) j) := by
  have g := swp_get d (show j + 1 < d.size by omega) (show j < d.size by omega)
  intro p q hp hpq hq h1 h2
  rw [g, g] at h1 h2 ⊢
  by_cases c1 : q = j
  · subst c1
    have c3 : p ≠ q + 1 := by omega
    have c4 : p ≠ q := by omega
    simp only [if_true, c3, c4, if_false] at h1 h2 ⊢
    exact h p (q + 1) hp (by omega) (by omega) h1 h2
  · by_cases c2 : q = j + 1
    · subst c2
      have c3 : j + 1 ≠ j := by omega
      by_cases c4 : p = j
      · subst c4
        simp only [if_true, c3, if_false] at h1 h2 ⊢
        rw [h1] at hl
        cases hl
      · have c5 : p ≠ j + 1 := by omega
        simp only [if_true, c3, c4, c5, if_false] at h1 h2 ⊢
        exact h p j hp (by omega) (by omega) h1 h2
    · by_cases c4 : p = j
      · subst c4
        simp only [if_true, c1, c2, if_false] at h1 h2 ⊢
        exact h (p + 1) q (by omega) (by omega) hq h1 h2
      · by_cases c5 : p = j + 1
        · subst c5
          have c3 : j + 1 ≠ j := by omega
          simp only [if_true, c1, c2, c3, if_false] at h1 h2 ⊢
          exact h j q hj (by omega) hq h1 h2
        · simp only [c1, c2, c4, c5, if_false] at h1 h2 ⊢
          exact h p q hp hpq hq h1 h2
theorem insInner_stab {lt : α × Nat → α × Nat → Bool} {a b : Nat} : ∀ (j : Nat) (d : Array (α × Nat)), j < b → b ≤ d.size → StabL lt a b d → StabL lt a b (insInner lt a j d) ∧ (insInner lt a j d).size = d.size
  | 0, d, _, _, h => by rw [insInner]; exact ⟨h, rfl⟩
  | j + 1, d, hj, hb, h => by
    rw [insInner]
    split
    · rename_i hc
      simp only [gt_iff_lt, Bool.and_eq_true, decide_eq_true_eq] at hc
      have ih := insInner_stab j (swp d (j + 1) j) (by omega) (by rw [size_swp]; exact hb) (swp_stab h (by omega) hj hb hc.2)
      rw [size_swp] at ih
      exact ih
    · exact ⟨h, rfl⟩
theorem insOuter_stab {lt : α × Nat → α × Nat → Bool} {a b : Nat} : ∀ (n i : Nat) (d : Array (α × Nat)), b - i ≤ n → b ≤ d.size → StabL lt a b d → StabL lt a b (insOuter lt a b i d)
  | 0, i, d, hn, hb, h => by
    rw [insOuter, if_neg (by omega)]; exact h
  | n + 1, i, d, hn, hb, h => by
    rw [insOuter]
    split
    · rename_i hc
      have h1 := insInner_stab i d hc hb h
      exact insOuter_stab n (i + 1) _ (by omega) (by rw [h1.2]; exact hb) h1.1
    · exact h
/-- By the order, and where it says nothing by the numbers. -/
def lexL (lt : α × Nat → α × Nat → Bool) (x y : α × Nat) : Prop := lt x y = true ∨ (lt x y = false ∧ lt y x = false ∧ x.2 < y.2)
theorem lexL_trans {β : Type} {lt : β × Nat → β × Nat → Bool} (hO : SWO lt) (x y z : β × Nat) (h1 : lexL lt x y) (h2 : lexL lt y z) : lexL lt x z := by
  rcases h1 with h1 | ⟨h1, h1', h1''⟩
  · rcases h2 with h2 | ⟨h2, h2', h2''⟩
    · exact .inl (hO.trans _ _ _ h1 h2)
    · refine .inl ?_
      cases hc : lt x z with
      | true => rfl
      | false =>
        have := hO.ntrans x z y hc h2'
        rw [h1] at this; cases this
  · rcases h2 with h2 | ⟨h2, h2', h2''⟩
    · refine .inl ?_
      cases hc : lt x z with
      | true => rfl
      | false =>
        have := hO.ntrans y x z h1' hc
        rw [h2] at this; cases this
    · exact .inr ⟨hO.ntrans _ _ _ h1 h2, hO.ntrans _ _ _ h2' h1', by omega⟩
theorem lex_of_stab {lt : α × Nat → α × Nat → Bool} {a b : Nat} {d : Array (α × Nat)} (h1 : SortedIn lt a b d) (h2 : StabL lt a b d) : SortL (lexL lt) a b d := by
  intro i j hi hij hj
  have := h1 i j hi hij hj
  cases hc : lt d[i]! d[j]! with
  | true => exact .inl hc
  | false => exact .inr ⟨hc, this, h2 i j hi hij hj hc this⟩
/-- Numbered from 0 on, from a to b. -/
def NumL (a b : Nat) (d : Array (α × Nat)) : Prop := ∀ i, a ≤ i → i < b → a ≤ d[i]!.2 ∧ d[i]!.2 < b
theorem ins_lex {lt : α × Nat → α × Nat → Bool} (hO : SWO lt) {a b : Nat} {d : Array (α × Nat)} (hab : a ≤ b) (hb : b ≤ d.size) (hs : ∀ i, a ≤ i → i < b → d[i]!.2 = i) : PermIn a b d (insertionSort lt d a b) ∧ SortL (lexL lt) a b (insertionSort lt d a b) := by
  obtain ⟨hp, hso⟩ := insertionSort_holds hO d a b hab hb
  refine ⟨hp, lex_of_stab hso (insOuter_stab b (a + 1) d (by omega) hb ?_)⟩
  intro i j hi hij hj _ _
  rw [hs i hi (by omega), hs j (by omega) hj]
  exact hij
theorem numL_perm {a b : Nat} {d d' : Array (α × Nat)} (hb : b ≤ d.size) (hp : PermIn a b d d') (hs : ∀ i, a ≤ i → i < b → d[i]!.2 = i) : NumL a b d' :=
  permIn_all d d' a b (fun x => a ≤ x.2 ∧ x.2 < b) hb hp fun i hi hib => by rw [hs i hi hib]; exact ⟨hi, hib⟩
theorem twoL_of {lt : α × Nat → α × Nat → Bool} {a m b : Nat} {d : Array (α × Nat)} (h1 : SortL (lexL lt) a m d) (h2 : SortL (lexL lt) m b d) (n1 : NumL a m d) (n2 : NumL m b d) : TwoL lt (lexL lt) a m b d :=
  ⟨h1, h2, fun i j hi him hj hjb => ⟨fun h => .inl h, fun h => by
    cases hc : lt d[i]! d[j]! with
    | true => exact .inl hc
    | false => exact .inr ⟨hc, h, Nat.lt_of_lt_of_le (n1 i hi him).2 (n2 j hj hjb).1⟩⟩⟩

theorem ins_none (lt : α → α → Bool) (d : Array α) (a : Nat) : insertionSort lt d a a = d := by
  unfold insertionSort
  rw [insOuter, if_neg (by omega)]

theorem ins_done (lt : α → α → Bool) (d : Array α) {a b : Nat} (h : b = a) : insertionSort lt d a b = d := by
  subst h
  exact ins_none lt d _

/-- Two blocks, each sorted by itself. -/
theorem two_blocks {lt : α × Nat → α × Nat → Bool} (hO : SWO lt) {n : Nat} {d : Array (α × Nat)} (hn : d.size = n) (h20 : 20 < n) (hs : ∀ i, i < n → d[i]!.2 = i) :
    PermIn 0 n d (insertionSort lt (insertionSort lt d 0 20) 20 n) ∧ TwoL lt (lexL lt) 0 20 n (insertionSort lt (insertionSort lt d 0 20) 20 n) := by
  obtain ⟨p1, s1⟩ := ins_lex hO (a := 0) (b := 20) (d := d) (by omega) (by omega) (fun i _ hi => hs i (by omega))
  have hsz := p1.1
  have hs2 : ∀ i, 20 ≤ i → i < n → (insertionSort lt d 0 20)[i]!.2 = i := fun i hi hin => by rw [p1.2.1 i (.inr hi)]; exact hs i hin
  obtain ⟨p2, s2⟩ := ins_lex hO (a := 20) (b := n) (d := insertionSort lt d 0 20) (by omega) (by omega) hs2
  refine ⟨permIn_trans _ _ _ _ _ (permIn_mono _ _ 0 20 0 n (by omega) (by omega) (by omega) p1) (permIn_mono _ _ 20 n 0 n (by omega) (by omega) (by omega) p2), twoL_of ?_ s2 ?_ (numL_perm (by omega) p2 hs2)⟩
  · intro i j hi hij hj
    rw [p2.2.1 i (.inl (by omega)), p2.2.1 j (.inl (by omega))]
    exact s1 i j hi hij hj
  · intro i hi him
    rw [p2.2.1 i (.inl him)]
    exact numL_perm (by omega) p1 (fun i _ hi => hs i (by omega)) i hi him

theorem stabT : StabT Tryd.prog :=
  ⟨by kernel_rfl, Tryd.underlying0, Tryd.isAgg0, Tryd.sizeOf0, Tryd.zeroValue0, Tryd.underlying3, Tryd.isAgg3, Tryd.sizeOf3, Tryd.zeroValue3, Tryd.underlying4, Tryd.isAgg4, Tryd.sizeOf4, Tryd.zeroValue4,
    Tryd.underlying60, Tryd.isAgg60, Tryd.sizeOf60, Tryd.zeroValue60, Tryd.underlying83, Tryd.isAgg83, Tryd.sizeOf83, Tryd.zeroValue83, Tryd.underlying107, Tryd.isAgg107, Tryd.sizeOf107, Tryd.zeroValue107⟩

/-- Within a world of the sort's. -/
theorem kIns_in (enc : α → List Value) (cf : α → α → Int) (hO : SWO (ltOf cf)) (g : Nat) (cb : Array Value) (eg : ∀ args w, (callFunc g args).run Tryd.prog w = .ok (.enter g args) w) (blk off cap a b : Nat) (d0 dk : Array α) (w0 W : World) (hcmp : ∀ w, CmpLays Tryd.prog g cb enc 4 cf blk off d0.size w)
    (R : RowK enc 4 w0 blk off d0) (hds : dk.size = d0.size) (S : SWK enc 4 w0 blk off dk W) (hab : a ≤ b) (hb : b ≤ d0.size) (hsz : d0.size < 4611686018427387904) :
    Calls Tryd.prog 67 #[.slice (some ⟨blk, off, none⟩) d0.size cap, .int .i64 a, .int .i64 b, .func (.func g) #[] cb] W fun e w' => e = .returned (.tuple #[]) ∧ SWK enc 4 w0 blk off (insertionSort (ltOf cf) dk a b) w' := by
  have h := AnyQ.insertionSortCmpFunc Tryd.lIns 4 Tryd.isAgg63 Tryd.sizeOf63 enc R.hk R.h1 cf g cb blk off cap a b dk W eg (by rw [hds]; exact hcmp W) (S.holds R.hblk R.hH hds) (S.lt R.hblk) hab (by omega) (by omega)
  rw [hds] at h
  refine Calls.mono h ?_
  rintro e w' ⟨he, n, os, rfl⟩
  exact ⟨he, S.on R.hblk n _ os (insertionSort_holds hO dk a b hab (by omega)).1.1⟩

set_option maxHeartbeats 4000000 in
set_option maxRecDepth 1000000 in
theorem kStab_few (enc : α × Nat → List Value) (cf : α × Nat → α × Nat → Int) (hO : SWO (ltOf cf)) (g : Nat) (cb : Array Value) (eg : ∀ args w, (callFunc g args).run Tryd.prog w = .ok (.enter g args) w) (blk cap : Nat) (d : Array (α × Nat)) (w : World) (hcmp : ∀ w, CmpLays Tryd.prog g cb enc 4 cf blk 0 d.size w)
    (R : RowK enc 4 w blk 0 d) (hs : ∀ i, i < d.size → d[i]!.2 = i) (hn : d.size < 20) :
    Calls Tryd.prog 60 #[.slice (some ⟨blk, 0, none⟩) d.size cap, .int .i64 d.size, .func (.func g) #[] cb] w fun e w' => e = .returned (.tuple #[]) ∧ ∃ d', SWK enc 4 w blk 0 d' w' ∧ PermIn 0 d.size d d' ∧ SortL (lexL (ltOf cf)) 0 d.size d' := by
  have S0 : Aside (SWK enc 4 w blk 0 d w) := SWK.start R.hH
  have HI : Aside (∀ (a b : Nat) (dk : Array (α × Nat)) (W : World), dk.size = d.size → SWK enc 4 w blk 0 dk W → a ≤ b → b ≤ d.size → Calls Tryd.prog 67 #[.slice (some ⟨blk, 0, none⟩) d.size cap, .int .i64 a, .int .i64 b, .func (.func g) #[] cb] W fun e w' => e = .returned (.tuple #[]) ∧ SWK enc 4 w blk 0 (insertionSort (ltOf cf) dk a b) w') :=
    fun a b dk W h1 h2 h3 h4 => kIns_in enc cf hO g cb eg blk 0 cap a b d dk w W hcmp R h1 h2 h3 h4 (by omega)
  have HL := Lib.hid (ins_lex hO (a := 0) (b := d.size) (d := d) (by omega) (by omega) (fun i _ hi => hs i hi))
  clear hcmp R hs
  have hz1 : ¬ (20 : Int) ≤ (d.size : Int) := by omega
  have hz2 : ¬ (20 : Int) < (d.size : Int) := by omega
  go_enter Tryd.func60, Tryd.ntmps60
  go_wp2
  go_loopg [7, 8] 0 (fun kx s7 s8 wr => s7 = .int .i64 0 ∧ s8 = .int .i64 20 ∧ Aside (SWK enc 4 w blk 0 d wr))
  case atStart => exact ⟨rfl, rfl, S0⟩
  case round =>
    clear S0
    obtain ⟨rfl, rfl, S1⟩ := hrel
    have H1 := Lib.hid (HI.out 0 d.size d wr rfl S1.out (by omega) (by omega))
    go_wp2_with (go_at_call 67; refine H1.out.mono ?_; rintro e w4 ⟨rfl, S4x⟩; refine Hid.out ?_)
    refine Lib.hid ?_
    have S4 : Aside (SWK enc 4 w blk 0 (insertionSort (ltOf cf) d 0 d.size) w4) := S4x
    clear S4x S1
    go_wp2
    go_loopg [6] 0 (fun kx s6 wr => s6 = .int .i64 20 ∧ Aside (SWK enc 4 w blk 0 (insertionSort (ltOf cf) d 0 d.size) wr))
    case atStart => exact ⟨rfl, S4⟩
    case round =>
      clear S4
      obtain ⟨rfl, S5⟩ := hrel
      go_wp2
      first | go_end0 | (refine bodyPost_ret (results_none rfl _ _ _) rfl ?_)
      exact ⟨rfl, _, S5.out, HL.out.1, HL.out.2⟩

set_option maxHeartbeats 4000000 in
set_option maxRecDepth 1000000 in
theorem kStab_20 (enc : α × Nat → List Value) (cf : α × Nat → α × Nat → Int) (hO : SWO (ltOf cf)) (g : Nat) (cb : Array Value) (eg : ∀ args w, (callFunc g args).run Tryd.prog w = .ok (.enter g args) w) (blk cap : Nat) (d : Array (α × Nat)) (w : World) (hcmp : ∀ w, CmpLays Tryd.prog g cb enc 4 cf blk 0 d.size w)
    (R : RowK enc 4 w blk 0 d) (hs : ∀ i, i < d.size → d[i]!.2 = i) (hn : d.size = 20) :
    Calls Tryd.prog 60 #[.slice (some ⟨blk, 0, none⟩) d.size cap, .int .i64 d.size, .func (.func g) #[] cb] w fun e w' => e = .returned (.tuple #[]) ∧ ∃ d', SWK enc 4 w blk 0 d' w' ∧ PermIn 0 d.size d d' ∧ SortL (lexL (ltOf cf)) 0 d.size d' := by
  have S0 : Aside (SWK enc 4 w blk 0 d w) := SWK.start R.hH
  have HI : Aside (∀ (a b : Nat) (dk : Array (α × Nat)) (W : World), dk.size = d.size → SWK enc 4 w blk 0 dk W → a ≤ b → b ≤ d.size → Calls Tryd.prog 67 #[.slice (some ⟨blk, 0, none⟩) d.size cap, .int .i64 a, .int .i64 b, .func (.func g) #[] cb] W fun e w' => e = .returned (.tuple #[]) ∧ SWK enc 4 w blk 0 (insertionSort (ltOf cf) dk a b) w') :=
    fun a b dk W h1 h2 h3 h4 => kIns_in enc cf hO g cb eg blk 0 cap a b d dk w W hcmp R h1 h2 h3 h4 (by omega)
  have HL := Lib.hid (ins_lex hO (a := 0) (b := 20) (d := d) (by omega) (by omega) (fun i _ hi => hs i (by omega)))
  have hz1 : (20 : Int) ≤ (d.size : Int) := by omega
  have hz2 : ¬ (20 : Int) < (d.size : Int) := by omega
  have hz3 : ¬ (40 : Int) ≤ (d.size : Int) := by omega
  have hq : d.size ≤ 20 ∧ 20 ≤ d.size := by omega
  have HN := Lib.hid hn
  clear hcmp R hs hn
  go_enter Tryd.func60, Tryd.ntmps60
  go_wp2
  go_loopg [7, 8] 1 (fun kx s7 s8 wr => (s7 = .int .i64 0 ∧ s8 = .int .i64 20 ∧ 1 ≤ kx ∧ Aside (SWK enc 4 w blk 0 d wr)) ∨ (s7 = .int .i64 20 ∧ s8 = .int .i64 40 ∧ Aside (SWK enc 4 w blk 0 (insertionSort (ltOf cf) d 0 20) wr)))
  case atStart => exact .inl ⟨rfl, rfl, Nat.le_refl _, S0⟩
  case round =>
    clear S0
    rcases hrel with ⟨rfl, rfl, hkx, S1⟩ | ⟨rfl, rfl, S1⟩
    · have H1 := Lib.hid (HI.out 0 20 d wr rfl S1.out (by omega) (by omega))
      go_wp2_with (go_at_call 67; refine H1.out.mono ?_; rintro e w4 ⟨rfl, S4x⟩; refine Hid.out ?_)
      refine Lib.hid ?_
      have S4 : Aside (SWK enc 4 w blk 0 (insertionSort (ltOf cf) d 0 20) w4) := S4x
      clear S4x S1
      go_wp2
      go_roundg 0
      case measure => omega
      case rel => exact .inr ⟨rfl, rfl, S4⟩
    · have H1 := Lib.hid (HI.out 20 d.size _ wr HL.out.1.1 S1.out (by omega) (by omega))
      go_wp2_with (go_at_call 67; refine H1.out.mono ?_; rintro e w4 ⟨rfl, S4x⟩; refine Hid.out ?_)
      refine Lib.hid ?_
      have S4 : Aside (SWK enc 4 w blk 0 (insertionSort (ltOf cf) d 0 20) w4) := by
        have := S4x
        rw [HN.out, ins_none] at this
        exact this
      clear S4x S1
      go_wp2
      go_loopg [6] 0 (fun kx s6 wr => s6 = .int .i64 20 ∧ Aside (SWK enc 4 w blk 0 (insertionSort (ltOf cf) d 0 20) wr))
      case atStart => exact ⟨rfl, S4⟩
      case round =>
        clear S4
        obtain ⟨rfl, S5⟩ := hrel
        go_wp2
        first | go_end0 | (refine bodyPost_ret (results_none rfl _ _ _) rfl ?_)
        exact ⟨rfl, _, S5.out, by rw [HN.out]; exact HL.out.1, by rw [HN.out]; exact HL.out.2⟩

set_option maxHeartbeats 4000000 in
set_option maxRecDepth 1000000 in
theorem kStab_more (enc : α × Nat → List Value) (cf : α × Nat → α × Nat → Int) (hO : SWO (ltOf cf)) (g : Nat) (cb : Array Value) (eg : ∀ args w, (callFunc g args).run Tryd.prog w = .ok (.enter g args) w) (blk cap : Nat) (d : Array (α × Nat)) (w : World) (hcmp : ∀ w, CmpLays Tryd.prog g cb enc 4 cf blk 0 d.size w)
    (R : RowK enc 4 w blk 0 d) (hs : ∀ i, i < d.size → d[i]!.2 = i) (hn1 : 20 < d.size) (hn2 : d.size < 40) :
    Calls Tryd.prog 60 #[.slice (some ⟨blk, 0, none⟩) d.size cap, .int .i64 d.size, .func (.func g) #[] cb] w fun e w' => e = .returned (.tuple #[]) ∧ ∃ d', SWK enc 4 w blk 0 d' w' ∧ PermIn 0 d.size d d' ∧ SortL (lexL (ltOf cf)) 0 d.size d' := by
  have S0 : Aside (SWK enc 4 w blk 0 d w) := SWK.start R.hH
  have HI : Aside (∀ (a b : Nat) (dk : Array (α × Nat)) (W : World), dk.size = d.size → SWK enc 4 w blk 0 dk W → a ≤ b → b ≤ d.size → Calls Tryd.prog 67 #[.slice (some ⟨blk, 0, none⟩) d.size cap, .int .i64 a, .int .i64 b, .func (.func g) #[] cb] W fun e w' => e = .returned (.tuple #[]) ∧ SWK enc 4 w blk 0 (insertionSort (ltOf cf) dk a b) w') :=
    fun a b dk W h1 h2 h3 h4 => kIns_in enc cf hO g cb eg blk 0 cap a b d dk w W hcmp R h1 h2 h3 h4 (by omega)
  have HY : Aside (∀ (m b : Nat) (dk : Array (α × Nat)) (W : World), dk.size = d.size → SWK enc 4 w blk 0 dk W → 0 < m → m < b → b ≤ d.size → TwoL (ltOf cf) (lexL (ltOf cf)) 0 m b dk → Calls Tryd.prog 68 #[.slice (some ⟨blk, 0, none⟩) d.size cap, .int .i64 0, .int .i64 m, .int .i64 b, .func (.func g) #[] cb] W fun e w' => e = .returned (.tuple #[]) ∧ ∃ d', SWK enc 4 w blk 0 d' w' ∧ PermIn 0 b dk d' ∧ SortL (lexL (ltOf cf)) 0 b d') :=
    fun m b dk W h1 h2 h3 h4 h5 h6 => kSym_any Tryd.func91 Tryd.func80 (enters_of Tryd.func91 (by kernel_rfl) rfl) (enters_of Tryd.func80 (by kernel_rfl) rfl) (enters_of Tryd.func68 (by kernel_rfl) rfl) stabT Tryd.func68 4 Tryd.isAgg63 Tryd.sizeOf63 enc cf g cb blk 0 cap d w eg (hcmp w) R (by omega) (lexL (ltOf cf)) (lexL_trans hO) b 0 m b dk W (by omega) h1 h2 h3 h4 h5 h6
  have HL := Lib.hid (two_blocks hO (n := d.size) (d := d) rfl (by omega) hs)
  have HZ := Lib.hid (ins_lex hO (a := 0) (b := 20) (d := d) (by omega) (by omega) (fun i _ hi => hs i (by omega)))
  have hz1 : (20 : Int) ≤ (d.size : Int) := by omega
  have hz2 : (20 : Int) < (d.size : Int) := by omega
  have hz3 : ¬ (40 : Int) < (d.size : Int) := by omega
  have hz4 : ¬ (40 : Int) ≤ (d.size : Int) := by omega
  clear hcmp R hs
  go_enter Tryd.func60, Tryd.ntmps60
  go_wp2
  go_loopg [7, 8] 2 (fun kx s7 s8 wr => (s7 = .int .i64 0 ∧ s8 = .int .i64 20 ∧ 2 ≤ kx ∧ Aside (SWK enc 4 w blk 0 d wr)) ∨ (s7 = .int .i64 20 ∧ s8 = .int .i64 40 ∧ 1 ≤ kx ∧ Aside (SWK enc 4 w blk 0 (insertionSort (ltOf cf) d 0 20) wr)))
  case atStart => exact .inl ⟨rfl, rfl, Nat.le_refl _, S0⟩
  case round =>
    clear S0
    rcases hrel with ⟨rfl, rfl, hkx, S1⟩ | ⟨rfl, rfl, hkx, S1⟩
    · have H1 := Lib.hid (HI.out 0 20 d wr rfl S1.out (by omega) (by omega))
      go_wp2_with (go_at_call 67; refine H1.out.mono ?_; rintro e w4 ⟨rfl, S4x⟩; refine Hid.out ?_)
      refine Lib.hid ?_
      have S4 : Aside (SWK enc 4 w blk 0 (insertionSort (ltOf cf) d 0 20) w4) := S4x
      clear S4x S1
      go_wp2
      go_roundg 1
      case measure => omega
      case rel => exact .inr ⟨rfl, rfl, Nat.le_refl _, S4⟩
    · have H1 := Lib.hid (HI.out 20 d.size _ wr HZ.out.1.1 S1.out (by omega) (by omega))
      go_wp2_with (go_at_call 67; refine H1.out.mono ?_; rintro e w4 ⟨rfl, S4x⟩; refine Hid.out ?_)
      refine Lib.hid ?_
      have S4 : Aside (SWK enc 4 w blk 0 (insertionSort (ltOf cf) (insertionSort (ltOf cf) d 0 20) 20 d.size) w4) := S4x
      clear S4x S1
      go_wp2
      go_loopg [6] 1 (fun kx s6 wr => (s6 = .int .i64 20 ∧ 1 ≤ kx ∧ Aside (SWK enc 4 w blk 0 (insertionSort (ltOf cf) (insertionSort (ltOf cf) d 0 20) 20 d.size) wr)) ∨ (s6 = .int .i64 40 ∧ Aside (∃ d', SWK enc 4 w blk 0 d' wr ∧ PermIn 0 d.size d d' ∧ SortL (lexL (ltOf cf)) 0 d.size d')))
      case atStart => exact .inl ⟨rfl, Nat.le_refl _, S4⟩
      case round =>
        clear S4
        rcases hrel with ⟨rfl, hk2, S5⟩ | ⟨rfl, S5⟩
        · go_wp2
          go_loopg [7, 8] 0 (fun kx s7 s8 wr => s7 = .int .i64 0 ∧ s8 = .int .i64 40 ∧ Aside (SWK enc 4 w blk 0 (insertionSort (ltOf cf) (insertionSort (ltOf cf) d 0 20) 20 d.size) wr))
          case atStart => exact ⟨rfl, rfl, S5⟩
          case round =>
            clear S5
            obtain ⟨rfl, rfl, S6⟩ := hrel
            have H2 := Lib.hid (HY.out 20 d.size _ wr HL.out.1.1 S6.out (by omega) (by omega) (by omega) HL.out.2)
            go_wp2_with (go_at_call 68; refine H2.out.mono ?_; rintro e w7 ⟨rfl, d7, S7, P7, O7⟩; refine Hid.out ?_)
            refine Lib.hid ?_
            have S8 : Aside (∃ d', SWK enc 4 w blk 0 d' w7 ∧ PermIn 0 d.size d d' ∧ SortL (lexL (ltOf cf)) 0 d.size d') := ⟨d7, S7, permIn_trans _ _ _ _ _ HL.out.1 P7, O7⟩
            clear S7 P7 O7 S6
            go_wp2
            go_roundg 0
            case measure => omega
            case rel => exact .inr ⟨rfl, S8⟩
        · go_wp2
          first | go_end0 | (refine bodyPost_ret (results_none rfl _ _ _) rfl ?_)
          exact ⟨rfl, S5.out⟩

set_option maxHeartbeats 4000000 in
set_option maxRecDepth 1000000 in
theorem kStab_40 (enc : α × Nat → List Value) (cf : α × Nat → α × Nat → Int) (hO : SWO (ltOf cf)) (g : Nat) (cb : Array Value) (eg : ∀ args w, (callFunc g args).run Tryd.prog w = .ok (.enter g args) w) (blk cap : Nat) (d : Array (α × Nat)) (w : World) (hcmp : ∀ w, CmpLays Tryd.prog g cb enc 4 cf blk 0 d.size w)
    (R : RowK enc 4 w blk 0 d) (hs : ∀ i, i < d.size → d[i]!.2 = i) (hn : d.size = 40) :
    Calls Tryd.prog 60 #[.slice (some ⟨blk, 0, none⟩) d.size cap, .int .i64 d.size, .func (.func g) #[] cb] w fun e w' => e = .returned (.tuple #[]) ∧ ∃ d', SWK enc 4 w blk 0 d' w' ∧ PermIn 0 d.size d d' ∧ SortL (lexL (ltOf cf)) 0 d.size d' := by
  have S0 : Aside (SWK enc 4 w blk 0 d w) := SWK.start R.hH
  have HI : Aside (∀ (a b : Nat) (dk : Array (α × Nat)) (W : World), dk.size = d.size → SWK enc 4 w blk 0 dk W → a ≤ b → b ≤ d.size → Calls Tryd.prog 67 #[.slice (some ⟨blk, 0, none⟩) d.size cap, .int .i64 a, .int .i64 b, .func (.func g) #[] cb] W fun e w' => e = .returned (.tuple #[]) ∧ SWK enc 4 w blk 0 (insertionSort (ltOf cf) dk a b) w') :=
    fun a b dk W h1 h2 h3 h4 => kIns_in enc cf hO g cb eg blk 0 cap a b d dk w W hcmp R h1 h2 h3 h4 (by omega)
  have HY : Aside (∀ (m b : Nat) (dk : Array (α × Nat)) (W : World), dk.size = d.size → SWK enc 4 w blk 0 dk W → 0 < m → m < b → b ≤ d.size → TwoL (ltOf cf) (lexL (ltOf cf)) 0 m b dk → Calls Tryd.prog 68 #[.slice (some ⟨blk, 0, none⟩) d.size cap, .int .i64 0, .int .i64 m, .int .i64 b, .func (.func g) #[] cb] W fun e w' => e = .returned (.tuple #[]) ∧ ∃ d', SWK enc 4 w blk 0 d' w' ∧ PermIn 0 b dk d' ∧ SortL (lexL (ltOf cf)) 0 b d') :=
    fun m b dk W h1 h2 h3 h4 h5 h6 => kSym_any Tryd.func91 Tryd.func80 (enters_of Tryd.func91 (by kernel_rfl) rfl) (enters_of Tryd.func80 (by kernel_rfl) rfl) (enters_of Tryd.func68 (by kernel_rfl) rfl) stabT Tryd.func68 4 Tryd.isAgg63 Tryd.sizeOf63 enc cf g cb blk 0 cap d w eg (hcmp w) R (by omega) (lexL (ltOf cf)) (lexL_trans hO) b 0 m b dk W (by omega) h1 h2 h3 h4 h5 h6
  have HL := Lib.hid (two_blocks hO (n := d.size) (d := d) rfl (by omega) hs)
  have HZ := Lib.hid (ins_lex hO (a := 0) (b := 20) (d := d) (by omega) (by omega) (fun i _ hi => hs i (by omega)))
  have hz1 : (20 : Int) ≤ (d.size : Int) := by omega
  have hz2 : (20 : Int) < (d.size : Int) := by omega
  have hz3 : ¬ (40 : Int) < (d.size : Int) := by omega
  have hz4 : (40 : Int) ≤ (d.size : Int) := by omega
  have hz5 : ¬ (60 : Int) ≤ (d.size : Int) := by omega
  have hz6 : ¬ (60 : Int) < (d.size : Int) := by omega
  have hz7 : ¬ (80 : Int) ≤ (d.size : Int) := by omega
  have hq : d.size ≤ 40 ∧ 40 ≤ d.size := by omega
  have HN := Lib.hid hn
  clear hcmp R hs hn
  go_enter Tryd.func60, Tryd.ntmps60
  go_wp2
  go_loopg [7, 8] 2 (fun kx s7 s8 wr => (s7 = .int .i64 0 ∧ s8 = .int .i64 20 ∧ 2 ≤ kx ∧ Aside (SWK enc 4 w blk 0 d wr)) ∨ (s7 = .int .i64 20 ∧ s8 = .int .i64 40 ∧ 1 ≤ kx ∧ Aside (SWK enc 4 w blk 0 (insertionSort (ltOf cf) d 0 20) wr)) ∨ (s7 = .int .i64 40 ∧ s8 = .int .i64 60 ∧ Aside (SWK enc 4 w blk 0 (insertionSort (ltOf cf) (insertionSort (ltOf cf) d 0 20) 20 d.size) wr)))
  case atStart => exact .inl ⟨rfl, rfl, Nat.le_refl _, S0⟩
  case round =>
    clear S0
    rcases hrel with ⟨rfl, rfl, hkx, S1⟩ | ⟨rfl, rfl, hkx, S1⟩ | ⟨rfl, rfl, S1⟩
    · have H1 := Lib.hid (HI.out 0 20 d wr rfl S1.out (by omega) (by omega))
      go_wp2_with (go_at_call 67; refine H1.out.mono ?_; rintro e w4 ⟨rfl, S4x⟩; refine Hid.out ?_)
      refine Lib.hid ?_
      have S4 : Aside (SWK enc 4 w blk 0 (insertionSort (ltOf cf) d 0 20) w4) := S4x
      clear S4x S1
      go_wp2
      go_roundg 1
      case measure => omega
      case rel => exact .inr (.inl ⟨rfl, rfl, Nat.le_refl _, S4⟩)
    · have H1 := Lib.hid (HI.out 20 40 _ wr HZ.out.1.1 S1.out (by omega) (by omega))
      go_wp2_with (go_at_call 67; refine H1.out.mono ?_; rintro e w4 ⟨rfl, S4x⟩; refine Hid.out ?_)
      refine Lib.hid ?_
      have S4 : Aside (SWK enc 4 w blk 0 (insertionSort (ltOf cf) (insertionSort (ltOf cf) d 0 20) 20 d.size) w4) := (by rw [HN.out]; exact S4x)
      clear S4x S1
      go_wp2
      go_roundg 0
      case measure => omega
      case rel => exact .inr (.inr ⟨rfl, rfl, S4⟩)
    · have H1 := Lib.hid (HI.out 40 d.size _ wr HL.out.1.1 S1.out (by omega) (by omega))
      go_wp2_with (go_at_call 67; refine H1.out.mono ?_; rintro e w4 ⟨rfl, S4x⟩; refine Hid.out ?_)
      refine Lib.hid ?_
      have S4 : Aside (SWK enc 4 w blk 0 (insertionSort (ltOf cf) (insertionSort (ltOf cf) d 0 20) 20 d.size) w4) := (by have := S4x; rw [ins_done _ _ HN.out] at this; exact this)
      clear S4x S1
      go_wp2
      go_loopg [6] 1 (fun kx s6 wr => (s6 = .int .i64 20 ∧ 1 ≤ kx ∧ Aside (SWK enc 4 w blk 0 (insertionSort (ltOf cf) (insertionSort (ltOf cf) d 0 20) 20 d.size) wr)) ∨ (s6 = .int .i64 40 ∧ Aside (∃ d', SWK enc 4 w blk 0 d' wr ∧ PermIn 0 d.size d d' ∧ SortL (lexL (ltOf cf)) 0 d.size d')))
      case atStart => exact .inl ⟨rfl, Nat.le_refl _, S4⟩
      case round =>
        clear S4
        rcases hrel with ⟨rfl, hk2, S5⟩ | ⟨rfl, S5⟩
        · go_wp2
          go_loopg [7, 8] 1 (fun kx s7 s8 wr => (s7 = .int .i64 0 ∧ s8 = .int .i64 40 ∧ 1 ≤ kx ∧ Aside (SWK enc 4 w blk 0 (insertionSort (ltOf cf) (insertionSort (ltOf cf) d 0 20) 20 d.size) wr)) ∨ (s7 = .int .i64 40 ∧ s8 = .int .i64 80 ∧ Aside (∃ d', SWK enc 4 w blk 0 d' wr ∧ PermIn 0 d.size d d' ∧ SortL (lexL (ltOf cf)) 0 d.size d')))
          case atStart => exact .inl ⟨rfl, rfl, Nat.le_refl _, S5⟩
          case round =>
            clear S5
            rcases hrel with ⟨rfl, rfl, hk3, S6⟩ | ⟨rfl, rfl, S6⟩
            · have H2 := Lib.hid (HY.out 20 40 _ wr HL.out.1.1 S6.out (by omega) (by omega) (by omega) (by rw [← HN.out]; exact HL.out.2))
              go_wp2_with (go_at_call 68; refine H2.out.mono ?_; rintro e w7 ⟨rfl, d7, S7, P7, O7⟩; refine Hid.out ?_)
              refine Lib.hid ?_
              have S8 : Aside (∃ d', SWK enc 4 w blk 0 d' w7 ∧ PermIn 0 d.size d d' ∧ SortL (lexL (ltOf cf)) 0 d.size d') := ⟨d7, S7, permIn_trans _ _ _ _ _ HL.out.1 (by rw [HN.out] at P7 ⊢; exact P7), by rw [HN.out]; exact O7⟩
              clear S7 P7 O7 S6
              go_wp2
              go_roundg 0
              case measure => omega
              case rel => exact .inr ⟨rfl, rfl, S8⟩
            · go_wp2
              go_roundg 0
              case measure => omega
              case rel => exact .inr ⟨rfl, S6⟩
        · go_wp2
          first | go_end0 | (refine bodyPost_ret (results_none rfl _ _ _) rfl ?_)
          exact ⟨rfl, S5.out⟩

/-- At most forty. -/
theorem kStable_any (enc : α × Nat → List Value) (cf : α × Nat → α × Nat → Int) (hO : SWO (ltOf cf)) (g : Nat) (cb : Array Value) (eg : ∀ args w, (callFunc g args).run Tryd.prog w = .ok (.enter g args) w) (blk cap : Nat) (d : Array (α × Nat)) (w : World) (hcmp : ∀ w, CmpLays Tryd.prog g cb enc 4 cf blk 0 d.size w)
    (R : RowK enc 4 w blk 0 d) (hs : ∀ i, i < d.size → d[i]!.2 = i) (h40 : d.size ≤ 40) :
    Calls Tryd.prog 52 #[.slice (some ⟨blk, 0, none⟩) d.size cap, .func (.func g) #[] cb] w fun e w' => e = .returned (.tuple #[]) ∧ ∃ d', SWK enc 4 w blk 0 d' w' ∧ PermIn 0 d.size d d' ∧ SortL (lexL (ltOf cf)) 0 d.size d' := by
  have hk : Calls Tryd.prog 60 #[.slice (some ⟨blk, 0, none⟩) d.size cap, .int .i64 d.size, .func (.func g) #[] cb] w fun e w' => e = .returned (.tuple #[]) ∧ ∃ d', SWK enc 4 w blk 0 d' w' ∧ PermIn 0 d.size d d' ∧ SortL (lexL (ltOf cf)) 0 d.size d' := by
    by_cases c1 : d.size < 20
    · exact kStab_few enc cf hO g cb eg blk cap d w hcmp R hs c1
    · by_cases c2 : d.size = 20
      · exact kStab_20 enc cf hO g cb eg blk cap d w hcmp R hs c2
      · by_cases c3 : d.size = 40
        · exact kStab_40 enc cf hO g cb eg blk cap d w hcmp R hs c3
        · exact kStab_more enc cf hO g cb eg blk cap d w hcmp R hs (by omega) (by omega)
  have HK := Lib.hid hk
  clear hk hcmp R hs
  go_enter Tryd.func52, Tryd.ntmps52
  go_wp2_with (go_at_call 60; refine HK.out.mono ?_; rintro e w4 ⟨rfl, hd⟩; refine Hid.out ?_)
  refine Lib.hid ?_
  have HD := Lib.hid hd
  clear hd
  go_wp2
  first | go_end0 | (refine bodyPost_ret (results_none rfl _ _ _) rfl ?_)
  exact ⟨rfl, HD.out⟩

end Go.Proofs.YtdnpfmmkglgnjaaDoor
