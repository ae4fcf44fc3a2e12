/-
  DERIVED: THE SHELF's CONTRACTS AT THIS DUMP, IN PLAIN WORDS (tools/lay-plain.mjs out of 'YtmanjegdgjeeiaaGreatDoorGShelfRaw.lean', which tools/lay-shelf.mjs wrote): THE SAME DECLARATIONS UNDER THE SAME NAMES: 'import', 'namespace', 'open', 'def', 'theorem' AND NOTHING ELSE: no command of the shelf's: FOR A HAND-IN. Each laying: the table of numbers ('.._ren') and one theorem, a field a fact of the dump's own or the kernel's comparison; each contract: ONE APPLICATION. What the library's stable sort does at a row of at most forty: it is put into rising order, those that are alike in the order in which they stood. Alerts by rising keys, plainly; what byKey of package group does. What byKey of package group does: the alerts with their keys, by rising keys, in memory of its own.
-/
import Derived.Shelf.SlSortCmp.InsertionK
import Derived.Shelf.SlGeneric
import Derived.Ground.SlsfProg
import Derived.Shelf.SlSortCmp.WholeK
import Derived.Test.YtmanjegdgjeeiaaGreatDoorProg
import Derived.Test.YtmanjegdgjeeiaaGreatDoorKW19
import Derived.Shelf.SlSortCmp.NoneTotal
import Derived.Test.YtmanjegdgjeeiaaGreatDoorKW08
import Derived.Test.YtmanjegdgjeeiaaGreatDoorKW07
import Derived.Shelf.Small.Strs
namespace Go.Proofs
open Go.Shelf
def Tryz.lIns_ren : Go.Shelf.Ren := ⟨fun | 20 => 116 | n => n, fun | 24 => 67 | 22 => 64 | 3 => 3 | 25 => 102 | 4 => 4 | 0 => 0 | n => n, fun | n => n⟩
theorem Tryz.lIns : Go.Proofs.SlLaysF0.n20 Tryz.prog Tryz.lIns_ren := {
  mixed := by kernel_rfl
  f20 := ⟨Tryz.f116.name, by decide, Tryz.func116.trans (congrArg some (by kernel_rfl))⟩
  t0 := Tryz.underlying0
  a0 := Tryz.isAgg0
  z0 := Tryz.sizeOf0
  v0 := Tryz.zeroValue0
  t3 := Tryz.underlying3
  a3 := Tryz.isAgg3
  z3 := Tryz.sizeOf3
  v3 := Tryz.zeroValue3
  t4 := Tryz.underlying4
  a4 := Tryz.isAgg4
  z4 := Tryz.sizeOf4
  v4 := Tryz.zeroValue4
  t22 := Tryz.underlying64
  a22 := Tryz.isAgg64
  z22 := Tryz.sizeOf64
  v22 := Tryz.zeroValue64
  t25 := Tryz.underlying102
  a25 := Tryz.isAgg102
  z25 := Tryz.sizeOf102
  v25 := Tryz.zeroValue102 }
def Tryz.lSortG_ren : Go.Shelf.Ren := ⟨fun | 6 => 24 | 15 => 62 | 14 => 61 | 28 => 96 | 29 => 97 | 20 => 88 | 21 => 89 | 22 => 90 | 23 => 91 | 24 => 92 | 25 => 93 | 26 => 94 | 27 => 95 | 46 => 118 | 47 => 119 | 48 => 120 | 49 => 121 | 50 => 122 | 57 => 134 | n => n, fun | 22 => 31 | 24 => 44 | 25 => 74 | 3 => 3 | 39 => 106 | 0 => 0 | 53 => 140 | 55 => 142 | 4 => 4 | 46 => 134 | 45 => 133 | 50 => 68 | 5 => 5 | 9 => 9 | 66 => 161 | 70 => 165 | 76 => 175 | 77 => 58 | n => n, fun | n => n⟩
theorem Tryz.lSortG : Go.Proofs.SlLaysF0.n6 Tryz.prog Tryz.lSortG_ren := {
  mixed := by kernel_rfl
  f6 := ⟨Tryz.f24.name, by decide, Tryz.func24.trans (congrArg some (by kernel_rfl))⟩
  f14 := ⟨Tryz.f61.name, by decide, Tryz.func61.trans (congrArg some (by kernel_rfl))⟩
  f15 := Tryz.func62.trans (congrArg some (by kernel_rfl))
  f20 := ⟨Tryz.f88.name, by decide, Tryz.func88.trans (congrArg some (by kernel_rfl))⟩
  f21 := ⟨Tryz.f89.name, by decide, Tryz.func89.trans (congrArg some (by kernel_rfl))⟩
  f22 := ⟨Tryz.f90.name, by decide, Tryz.func90.trans (congrArg some (by kernel_rfl))⟩
  f23 := ⟨Tryz.f91.name, by decide, Tryz.func91.trans (congrArg some (by kernel_rfl))⟩
  f24 := ⟨Tryz.f92.name, by decide, Tryz.func92.trans (congrArg some (by kernel_rfl))⟩
  f25 := ⟨Tryz.f93.name, by decide, Tryz.func93.trans (congrArg some (by kernel_rfl))⟩
  f26 := ⟨Tryz.f94.name, by decide, Tryz.func94.trans (congrArg some (by kernel_rfl))⟩
  f27 := ⟨Tryz.f95.name, by decide, Tryz.func95.trans (congrArg some (by kernel_rfl))⟩
  f28 := Tryz.func96.trans (congrArg some (by kernel_rfl))
  f29 := Tryz.func97.trans (congrArg some (by kernel_rfl))
  f46 := ⟨Tryz.f118.name, by decide, Tryz.func118.trans (congrArg some (by kernel_rfl))⟩
  f47 := Tryz.func119.trans (congrArg some (by kernel_rfl))
  f48 := Tryz.func120.trans (congrArg some (by kernel_rfl))
  f49 := ⟨Tryz.f121.name, by decide, Tryz.func121.trans (congrArg some (by kernel_rfl))⟩
  f50 := ⟨Tryz.f122.name, by decide, Tryz.func122.trans (congrArg some (by kernel_rfl))⟩
  f57 := ⟨Tryz.f134.name, by decide, Tryz.func134.trans (congrArg some (by kernel_rfl))⟩
  t0 := Tryz.underlying0
  a0 := Tryz.isAgg0
  z0 := Tryz.sizeOf0
  v0 := Tryz.zeroValue0
  t3 := Tryz.underlying3
  a3 := Tryz.isAgg3
  z3 := Tryz.sizeOf3
  v3 := Tryz.zeroValue3
  t4 := Tryz.underlying4
  a4 := Tryz.isAgg4
  z4 := Tryz.sizeOf4
  v4 := Tryz.zeroValue4
  t5 := Tryz.underlying5
  a5 := Tryz.isAgg5
  z5 := Tryz.sizeOf5
  v5 := Tryz.zeroValue5
  t9 := Tryz.underlying9
  a9 := Tryz.isAgg9
  z9 := Tryz.sizeOf9
  v9 := Tryz.zeroValue9
  t22 := Tryz.underlying31
  a22 := Tryz.isAgg31
  z22 := Tryz.sizeOf31
  v22 := Tryz.zeroValue31
  t25 := Tryz.underlying74
  a25 := Tryz.isAgg74
  z25 := Tryz.sizeOf74
  v25 := Tryz.zeroValue74
  t39 := Tryz.underlying106
  a39 := Tryz.isAgg106
  z39 := Tryz.sizeOf106
  v39 := Tryz.zeroValue106
  t45 := Tryz.underlying133
  a45 := Tryz.isAgg133
  z45 := Tryz.sizeOf133
  v45 := Tryz.zeroValue133
  t46 := Tryz.underlying134
  a46 := Tryz.isAgg134
  z46 := Tryz.sizeOf134
  v46 := Tryz.zeroValue134
  t50 := Tryz.underlying68
  a50 := Tryz.isAgg68
  z50 := Tryz.sizeOf68
  v50 := Tryz.zeroValue68
  t53 := Tryz.underlying140
  a53 := Tryz.isAgg140
  z53 := Tryz.sizeOf140
  v53 := Tryz.zeroValue140
  t55 := Tryz.underlying142
  a55 := Tryz.isAgg142
  z55 := Tryz.sizeOf142
  v55 := Tryz.zeroValue142
  t66 := Tryz.underlying161
  a66 := Tryz.isAgg161
  z66 := Tryz.sizeOf161
  v66 := Tryz.zeroValue161
  t70 := Tryz.underlying165
  a70 := Tryz.isAgg165
  z70 := Tryz.sizeOf165
  v70 := Tryz.zeroValue165
  t76 := Tryz.underlying175
  a76 := Tryz.isAgg175
  z76 := Tryz.sizeOf175
  v76 := Tryz.zeroValue175
  t77 := Tryz.underlying58
  a77 := Tryz.isAgg58
  z77 := Tryz.sizeOf58
  v77 := Tryz.zeroValue58 }
end Go.Proofs
namespace Go.Proofs.YtmanjegdgjeeiaaGreatDoor
open Go.Shelf Go.RowKit Go.Lib Go.Sort
variable {P : Program} {α : Type} [Inhabited α]

/-- Those that are alike stand in the order of their numbers. -/
def StabL (lt : α × Nat → α × Nat → Bool) (a b : Nat) (d : Array (α × Nat)) : Prop := ∀ i j, a ≤ i → i < j → j < b → lt d[i]! d[j]! = false → lt d[j]! d[i]! = false → d[i]!.2 < d[j]!.2
theorem swp_stab {lt : α × Nat → α × Nat → Bool} {a b j : Nat} {d : Array (α × Nat)} (h : StabL lt a b d) (hj : a ≤ j) (hjb : j + 1 < b) (hb : b ≤ d.size) (hl : lt d[j + 1]! d[j]! = true) : StabL lt a b (swp d (j + 1) j) := by
  have g := swp_get d (show j + 1 < d.size by omega) (show j < d.size by omega)
  intro p q hp hpq hq h1 h2
  rw [g, g] at h1 h2 ⊢
  by_cases c1 : q = j
  · subst c1
    have c3 : p ≠ q + 1 := by omega
    have c4 : p ≠ q := by omega
    simp only [if_true, c3, c4, if_false] at h1 h2 ⊢
    exact h p (q + 1) hp (by omega) (by omega) h1 h2
  · by_cases c2 : q = j + 1
    · subst c2
      have c3 : j + 1 ≠ j := by omega
      by_cases c4 : p = j
      · subst c4
        simp only [if_true, c3, if_false] at h1 h2 ⊢
        rw [h1] at hl
        cases hl
      · have c5 : p ≠ j + 1 := by omega
        simp only [if_true, c3, c4, c5, if_false] at h1 h2 ⊢
        exact h p j hp (by omega) (by omega) h1 h2
    · by_cases c4 : p = j
      · subst c4
        simp only [if_true, c1, c2, if_false] at h1 h2 ⊢
        exact h (p + 1) q (by omega) (by omega) hq h1 h2
      · by_cases c5 : p = j + 1
        · subst c5
          have c3 : j + 1 ≠ j := by omega
          simp only [if_true, c1, c2, c3, if_false] at h1 h2 ⊢
          exact h j q hj (by omega) hq h1 h2
        · simp only [c1, c2, c4, c5, if_false] at h1 h2 ⊢
          exact h p q hp hpq hq h1 h2
theorem insInner_stab {lt : α × Nat → α × Nat → Bool} {a b : Nat} : ∀ (j : Nat) (d : Array (α × Nat)), j < b → b ≤ d.size → StabL lt a b d → StabL lt a b (insInner lt a j d) ∧ (insInner lt a j d).size = d.size
  | 0, d, _, _, h => by rw [insInner]; exact ⟨h, rfl⟩
  | j + 1, d, hj, hb, h => by
    rw [insInner]
    split
    · rename_i hc
      simp only [gt_iff_lt, Bool.and_eq_true, decide_eq_true_eq] at hc
      have ih := insInner_stab j (swp d (j + 1) j) (by omega) (by rw [size_swp]; exact hb) (swp_stab h (by omega) hj hb hc.2)
      rw [size_swp] at ih
      exact ih
    · exact ⟨h, rfl⟩
theorem insOuter_stab {lt : α × Nat → α × Nat → Bool} {a b : Nat} : ∀ (n i : Nat) (d : Array (α × Nat)), b - i ≤ n → b ≤ d.size → StabL lt a b d → StabL lt a b (insOuter lt a b i d)
  | 0, i, d, hn, hb, h => by
    rw [insOuter, if_neg (by omega)]; exact h
  | n + 1, i, d, hn, hb, h => by
    rw [insOuter]
    split
    · rename_i hc
      have h1 := insInner_stab i d hc hb h
      exact insOuter_stab n (i + 1) _ (by omega) (by rw [h1.2]; exact hb) h1.1
    · exact h
/-- By the order, and where it says nothing by the numbers. -/
def lexL (lt : α × Nat → α × Nat → Bool) (x y : α × Nat) : Prop := lt x y = true ∨ (lt x y = false ∧ lt y x = false ∧ x.2 < y.2)
theorem lexL_trans {β : Type} {lt : β × Nat → β × Nat → Bool} (hO : SWO lt) (x y z : β × Nat) (h1 : lexL lt x y) (h2 : lexL lt y z) : lexL lt x z := by
  rcases h1 with h1 | ⟨h1, h1', h1''⟩
  · rcases h2 with h2 | ⟨h2, h2', h2''⟩
    · exact .inl (hO.trans _ _ _ h1 h2)
    · refine .inl ?_
      cases hc : lt x z with
      | true => rfl
      | false =>
        have := hO.ntrans x z y hc h2'
        rw [h1] at this; cases this
  · rcases h2 with h2 | ⟨h2, h2', h2''⟩
    · refine .inl ?_
      cases hc : lt x z with
      | true => rfl
      | false =>
        have := hO.ntrans y x z h1' hc
        rw [h2] at this; cases this
    · exact .inr ⟨hO.ntrans _ _ _ h1 h2, hO.ntrans _ _ _ h2' h1', by omega⟩
theorem lex_of_stab {lt : α × Nat → α × Nat → Bool} {a b : Nat} {d : Array (α × Nat)} (h1 : SortedIn lt a b d) (h2 : StabL lt a b d) : SortL (lexL lt) a b d := by
  intro i j hi hij hj
  have := h1 i j hi hij hj
  cases hc : lt d[i]! d[j]! with
  | true => exact .inl hc
  | false => exact .inr ⟨hc, this, h2 i j hi hij hj hc this⟩
/-- Numbered from 0 on, from a to b. -/
def NumL (a b : Nat) (d : Array (α × Nat)) : Prop := ∀ i, a ≤ i → i < b → a ≤ d[i]!.2 ∧ d[i]!.2 < b
theorem ins_lex {lt : α × Nat → α × Nat → Bool} (hO : SWO lt) {a b : Nat} {d : Array (α × Nat)} (hab : a ≤ b) (hb : b ≤ d.size) (hs : ∀ i, a ≤ i → i < b → d[i]!.2 = i) : PermIn a b d (insertionSort lt d a b) ∧ SortL (lexL lt) a b (insertionSort lt d a b) := by
  obtain ⟨hp, hso⟩ := insertionSort_holds hO d a b hab hb
  refine ⟨hp, lex_of_stab hso (insOuter_stab b (a + 1) d (by omega) hb ?_)⟩
  intro i j hi hij hj _ _
  rw [hs i hi (by omega), hs j (by omega) hj]
  exact hij
theorem numL_perm {a b : Nat} {d d' : Array (α × Nat)} (hb : b ≤ d.size) (hp : PermIn a b d d') (hs : ∀ i, a ≤ i → i < b → d[i]!.2 = i) : NumL a b d' :=
  permIn_all d d' a b (fun x => a ≤ x.2 ∧ x.2 < b) hb hp fun i hi hib => by rw [hs i hi hib]; exact ⟨hi, hib⟩
theorem twoL_of {lt : α × Nat → α × Nat → Bool} {a m b : Nat} {d : Array (α × Nat)} (h1 : SortL (lexL lt) a m d) (h2 : SortL (lexL lt) m b d) (n1 : NumL a m d) (n2 : NumL m b d) : TwoL lt (lexL lt) a m b d :=
  ⟨h1, h2, fun i j hi him hj hjb => ⟨fun h => .inl h, fun h => by
    cases hc : lt d[i]! d[j]! with
    | true => exact .inl hc
    | false => exact .inr ⟨hc, h, Nat.lt_of_lt_of_le (n1 i hi him).2 (n2 j hj hjb).1⟩⟩⟩

theorem ins_none (lt : α → α → Bool) (d : Array α) (a : Nat) : insertionSort lt d a a = d := by
  unfold insertionSort
  rw [insOuter, if_neg (by omega)]

theorem ins_done (lt : α → α → Bool) (d : Array α) {a b : Nat} (h : b = a) : insertionSort lt d a b = d := by
  subst h
  exact ins_none lt d _

/-- Two blocks, each sorted by itself. -/
theorem two_blocks {lt : α × Nat → α × Nat → Bool} (hO : SWO lt) {n : Nat} {d : Array (α × Nat)} (hn : d.size = n) (h20 : 20 < n) (hs : ∀ i, i < n → d[i]!.2 = i) :
    PermIn 0 n d (insertionSort lt (insertionSort lt d 0 20) 20 n) ∧ TwoL lt (lexL lt) 0 20 n (insertionSort lt (insertionSort lt d 0 20) 20 n) := by
  obtain ⟨p1, s1⟩ := ins_lex hO (a := 0) (b := 20) (d := d) (by omega) (by omega) (fun i _ hi => hs i (by omega))
  have hsz := p1.1
  have hs2 : ∀ i, 20 ≤ i → i < n → (insertionSort lt d 0 20)[i]!.2 = i := fun i hi hin => by rw [p1.2.1 i (.inr hi)]; exact hs i hin
  obtain ⟨p2, s2⟩ := ins_lex hO (a := 20) (b := n) (d := insertionSort lt d 0 20) (by omega) (by omega) hs2
  refine ⟨permIn_trans _ _ _ _ _ (permIn_mono _ _ 0 20 0 n (by omega) (by omega) (by omega) p1) (permIn_mono _ _ 20 n 0 n (by omega) (by omega) (by omega) p2), twoL_of ?_ s2 ?_ (numL_perm (by omega) p2 hs2)⟩
  · intro i j hi hij hj
    rw [p2.2.1 i (.inl (by omega)), p2.2.1 j (.inl (by omega))]
    exact s1 i j hi hij hj
  · intro i hi him
    rw [p2.2.1 i (.inl him)]
    exact numL_perm (by omega) p1 (fun i _ hi => hs i (by omega)) i hi him

theorem stabT : StabT Tryz.prog :=
  ⟨by kernel_rfl, Tryz.underlying0, Tryz.isAgg0, Tryz.sizeOf0, Tryz.zeroValue0, Tryz.underlying3, Tryz.isAgg3, Tryz.sizeOf3, Tryz.zeroValue3, Tryz.underlying4, Tryz.isAgg4, Tryz.sizeOf4, Tryz.zeroValue4,
    Tryz.underlying64, Tryz.isAgg64, Tryz.sizeOf64, Tryz.zeroValue64, Tryz.underlying102, Tryz.isAgg102, Tryz.sizeOf102, Tryz.zeroValue102, Tryz.underlying106, Tryz.isAgg106, Tryz.sizeOf106, Tryz.zeroValue106⟩

/-- Within a world of the sort's. -/
theorem kIns_in (enc : α → List Value) (cf : α → α → Int) (hO : SWO (ltOf cf)) (g : Nat) (cb : Array Value) (eg : ∀ args w, (callFunc g args).run Tryz.prog w = .ok (.enter g args) w) (blk off cap a b : Nat) (d0 dk : Array α) (w0 W : World) (hcmp : ∀ w, CmpLays Tryz.prog g cb enc 4 cf blk off d0.size w)
    (R : RowK enc 4 w0 blk off d0) (hds : dk.size = d0.size) (S : SWK enc 4 w0 blk off dk W) (hab : a ≤ b) (hb : b ≤ d0.size) (hsz : d0.size < 4611686018427387904) :
    Calls Tryz.prog 116 #[.slice (some ⟨blk, off, none⟩) d0.size cap, .int .i64 a, .int .i64 b, .func (.func g) #[] cb] W fun e w' => e = .returned (.tuple #[]) ∧ SWK enc 4 w0 blk off (insertionSort (ltOf cf) dk a b) w' := by
  have h := AnyQ.insertionSortCmpFunc Tryz.lIns 4 Tryz.isAgg67 Tryz.sizeOf67 enc R.hk R.h1 cf g cb blk off cap a b dk W eg (by rw [hds]; exact hcmp W) (S.holds R.hblk R.hH hds) (S.lt R.hblk) hab (by omega) (by omega)
  rw [hds] at h
  refine Calls.mono h ?_
  rintro e w' ⟨he, n, os, rfl⟩
  exact ⟨he, S.on R.hblk n _ os (insertionSort_holds hO dk a b hab (by omega)).1.1⟩

set_option maxHeartbeats 4000000 in
set_option maxRecDepth 1000000 in
theorem kStab_few (enc : α × Nat → List Value) (cf : α × Nat → α × Nat → Int) (hO : SWO (ltOf cf)) (g : Nat) (cb : Array Value) (eg : ∀ args w, (callFunc g args).run Tryz.prog w = .ok (.enter g args) w) (blk cap : Nat) (d : Array (α × Nat)) (w : World) (hcmp : ∀ w, CmpLays Tryz.prog g cb enc 4 cf blk 0 d.size w)
    (R : RowK enc 4 w blk 0 d) (hs : ∀ i, i < d.size → d[i]!.2 = i) (hn : d.size < 20) :
    Calls Tryz.prog 87 #[.slice (some ⟨blk, 0, none⟩) d.size cap, .int .i64 d.size, .func (.func g) #[] cb] w fun e w' => e = .returned (.tuple #[]) ∧ ∃ d', SWK enc 4 w blk 0 d' w' ∧ PermIn 0 d.size d d' ∧ SortL (lexL (ltOf cf)) 0 d.size d' := by
  have S0 : Aside (SWK enc 4 w blk 0 d w) := SWK.start R.hH
  have HI : Aside (∀ (a b : Nat) (dk : Array (α × Nat)) (W : World), dk.size = d.size → SWK enc 4 w blk 0 dk W → a ≤ b → b ≤ d.size → Calls Tryz.prog 116 #[.slice (some ⟨blk, 0, none⟩) d.size cap, .int .i64 a, .int .i64 b, .func (.func g) #[] cb] W fun e w' => e = .returned (.tuple #[]) ∧ SWK enc 4 w blk 0 (insertionSort (ltOf cf) dk a b) w') :=
    fun a b dk W h1 h2 h3 h4 => kIns_in enc cf hO g cb eg blk 0 cap a b d dk w W hcmp R h1 h2 h3 h4 (by omega)
  have HL := Lib.hid (ins_lex hO (a := 0) (b := d.size) (d := d) (by omega) (by omega) (fun i _ hi => hs i hi))
  clear hcmp R hs
  have hz1 : ¬ (20 : Int) ≤ (d.size : Int) := by omega
  have hz2 : ¬ (20 : Int) < (d.size : Int) := by omega
  go_enter Tryz.func87, Tryz.ntmps87
  go_wp2
  go_loopg [7, 8] 0 (fun kx s7 s8 wr => s7 = .int .i64 0 ∧ s8 = .int .i64 20 ∧ Aside (SWK enc 4 w blk 0 d wr))
  case atStart => exact ⟨rfl, rfl, S0⟩
  case round =>
    clear S0
    obtain ⟨rfl, rfl, S1⟩ := hrel
    have H1 := Lib.hid (HI.out 0 d.size d wr rfl S1.out (by omega) (by omega))
    go_wp2_with (go_at_call 116; refine H1.out.mono ?_; rintro e w4 ⟨rfl, S4x⟩; refine Hid.out ?_)
    refine Lib.hid ?_
    have S4 : Aside (SWK enc 4 w blk 0 (insertionSort (ltOf cf) d 0 d.size) w4) := S4x
    clear S4x S1
    go_wp2
    go_loopg [6] 0 (fun kx s6 wr => s6 = .int .i64 20 ∧ Aside (SWK enc 4 w blk 0 (insertionSort (ltOf cf) d 0 d.size) wr))
    case atStart => exact ⟨rfl, S4⟩
    case round =>
      clear S4
      obtain ⟨rfl, S5⟩ := hrel
      go_wp2
      first | go_end0 | (refine bodyPost_ret (results_none rfl _ _ _) rfl ?_)
      exact ⟨rfl, _, S5.out, HL.out.1, HL.out.2⟩

set_option maxHeartbeats 4000000 in
set_option maxRecDepth 1000000 in
theorem kStab_20 (enc : α × Nat → List Value) (cf : α × Nat → α × Nat → Int) (hO : SWO (ltOf cf)) (g : Nat) (cb : Array Value) (eg : ∀ args w, (callFunc g args).run Tryz.prog w = .ok (.enter g args) w) (blk cap : Nat) (d : Array (α × Nat)) (w : World) (hcmp : ∀ w, CmpLays Tryz.prog g cb enc 4 cf blk 0 d.size w)
    (R : RowK enc 4 w blk 0 d) (hs : ∀ i, i < d.size → d[i]!.2 = i) (hn : d.size = 20) :
    Calls Tryz.prog 87 #[.slice (some ⟨blk, 0, none⟩) d.size cap, .int .i64 d.size, .func (.func g) #[] cb] w fun e w' => e = .returned (.tuple #[]) ∧ ∃ d', SWK enc 4 w blk 0 d' w' ∧ PermIn 0 d.size d d' ∧ SortL (lexL (ltOf cf)) 0 d.size d' := by
  have S0 : Aside (SWK enc 4 w blk 0 d w) := SWK.start R.hH
  have HI : Aside (∀ (a b : Nat) (dk : Array (α × Nat)) (W : World), dk.size = d.size → SWK enc 4 w blk 0 dk W → a ≤ b → b ≤ d.size → Calls Tryz.prog 116 #[.slice (some ⟨blk, 0, none⟩) d.size cap, .int .i64 a, .int .i64 b, .func (.func g) #[] cb] W fun e w' => e = .returned (.tuple #[]) ∧ SWK enc 4 w blk 0 (insertionSort (ltOf cf) dk a b) w') :=
    fun a b dk W h1 h2 h3 h4 => kIns_in enc cf hO g cb eg blk 0 cap a b d dk w W hcmp R h1 h2 h3 h4 (by omega)
  have HL := Lib.hid (ins_lex hO (a := 0) (b := 20) (d := d) (by omega) (by omega) (fun i _ hi => hs i (by omega)))
  have hz1 : (20 : Int) ≤ (d.size : Int) := by omega
  have hz2 : ¬ (20 : Int) < (d.size : Int) := by omega
  have hz3 : ¬ (40 : Int) ≤ (d.size : Int) := by omega
  have hq : d.size ≤ 20 ∧ 20 ≤ d.size := by omega
  have HN := Lib.hid hn
  clear hcmp R hs hn
  go_enter Tryz.func87, Tryz.ntmps87
  go_wp2
  go_loopg [7, 8] 1 (fun kx s7 s8 wr => (s7 = .int .i64 0 ∧ s8 = .int .i64 20 ∧ 1 ≤ kx ∧ Aside (SWK enc 4 w blk 0 d wr)) ∨ (s7 = .int .i64 20 ∧ s8 = .int .i64 40 ∧ Aside (SWK enc 4 w blk 0 (insertionSort (ltOf cf) d 0 20) wr)))
  case atStart => exact .inl ⟨rfl, rfl, Nat.le_refl _, S0⟩
  case round =>
    clear S0
    rcases hrel with ⟨rfl, rfl, hkx, S1⟩ | ⟨rfl, rfl, S1⟩
    · have H1 := Lib.hid (HI.out 0 20 d wr rfl S1.out (by omega) (by omega))
      go_wp2_with (go_at_call 116; refine H1.out.mono ?_; rintro e w4 ⟨rfl, S4x⟩; refine Hid.out ?_)
      refine Lib.hid ?_
      have S4 : Aside (SWK enc 4 w blk 0 (insertionSort (ltOf cf) d 0 20) w4) := S4x
      clear S4x S1
      go_wp2
      go_roundg 0
      case measure => omega
      case rel => exact .inr ⟨rfl, rfl, S4⟩
    · have H1 := Lib.hid (HI.out 20 d.size _ wr HL.out.1.1 S1.out (by omega) (by omega))
      go_wp2_with (go_at_call 116; refine H1.out.mono ?_; rintro e w4 ⟨rfl, S4x⟩; refine Hid.out ?_)
      refine Lib.hid ?_
      have S4 : Aside (SWK enc 4 w blk 0 (insertionSort (ltOf cf) d 0 20) w4) := by
        have := S4x
        rw [HN.out, ins_none] at this
        exact this
      clear S4x S1
      go_wp2
      go_loopg [6] 0 (fun kx s6 wr => s6 = .int .i64 20 ∧ Aside (SWK enc 4 w blk 0 (insertionSort (ltOf cf) d 0 20) wr))
      case atStart => exact ⟨rfl, S4⟩
      case round =>
        clear S4
        obtain ⟨rfl, S5⟩ := hrel
        go_wp2
        first | go_end0 | (refine bodyPost_ret (results_none rfl _ _ _) rfl ?_)
        exact ⟨rfl, _, S5.out, by rw [HN.out]; exact HL.out.1, by rw [HN.out]; exact HL.out.2⟩

set_option maxHeartbeats 4000000 in
set_option maxRecDepth 1000000 in
theorem kStab_more (enc : α × Nat → List Value) (cf : α × Nat → α × Nat → Int) (hO : SWO (ltOf cf)) (g : Nat) (cb : Array Value) (eg : ∀ args w, (callFunc g args).run Tryz.prog w = .ok (.enter g args) w) (blk cap : Nat) (d : Array (α × Nat)) (w : World) (hcmp : ∀ w, CmpLays Tryz.prog g cb enc 4 cf blk 0 d.size w)
    (R : RowK enc 4 w blk 0 d) (hs : ∀ i, i < d.size → d[i]!.2 = i) (hn1 : 20 < d.size) (hn2 : d.size < 40) :
    Calls Tryz.prog 87 #[.slice (some ⟨blk, 0, none⟩) d.size cap, .int .i64 d.size, .func (.func g) #[] cb] w fun e w' => e = .returned (.tuple #[]) ∧ ∃ d', SWK enc 4 w blk 0 d' w' ∧ PermIn 0 d.size d d' ∧ SortL (lexL (ltOf cf)) 0 d.size d' := by
  have S0 : Aside (SWK enc 4 w blk 0 d w) := SWK.start R.hH
  have HI : Aside (∀ (a b : Nat) (dk : Array (α × Nat)) (W : World), dk.size = d.size → SWK enc 4 w blk 0 dk W → a ≤ b → b ≤ d.size → Calls Tryz.prog 116 #[.slice (some ⟨blk, 0, none⟩) d.size cap, .int .i64 a, .int .i64 b, .func (.func g) #[] cb] W fun e w' => e = .returned (.tuple #[]) ∧ SWK enc 4 w blk 0 (insertionSort (ltOf cf) dk a b) w') :=
    fun a b dk W h1 h2 h3 h4 => kIns_in enc cf hO g cb eg blk 0 cap a b d dk w W hcmp R h1 h2 h3 h4 (by omega)
  have HY : Aside (∀ (m b : Nat) (dk : Array (α × Nat)) (W : World), dk.size = d.size → SWK enc 4 w blk 0 dk W → 0 < m → m < b → b ≤ d.size → TwoL (ltOf cf) (lexL (ltOf cf)) 0 m b dk → Calls Tryz.prog 117 #[.slice (some ⟨blk, 0, none⟩) d.size cap, .int .i64 0, .int .i64 m, .int .i64 b, .func (.func g) #[] cb] W fun e w' => e = .returned (.tuple #[]) ∧ ∃ d', SWK enc 4 w blk 0 d' w' ∧ PermIn 0 b dk d' ∧ SortL (lexL (ltOf cf)) 0 b d') :=
    fun m b dk W h1 h2 h3 h4 h5 h6 => kSym_any Tryz.func150 Tryz.func133 (enters_of Tryz.func150 (by kernel_rfl) rfl) (enters_of Tryz.func133 (by kernel_rfl) rfl) (enters_of Tryz.func117 (by kernel_rfl) rfl) stabT Tryz.func117 4 Tryz.isAgg67 Tryz.sizeOf67 enc cf g cb blk 0 cap d w eg (hcmp w) R (by omega) (lexL (ltOf cf)) (lexL_trans hO) b 0 m b dk W (by omega) h1 h2 h3 h4 h5 h6
  have HL := Lib.hid (two_blocks hO (n := d.size) (d := d) rfl (by omega) hs)
  have HZ := Lib.hid (ins_lex hO (a := 0) (b := 20) (d := d) (by omega) (by omega) (fun i _ hi => hs i (by omega)))
  have hz1 : (20 : Int) ≤ (d.size : Int) := by omega
  have hz2 : (20 : Int) < (d.size : Int) := by omega
  have hz3 : ¬ (40 : Int) < (d.size : Int) := by omega
  have hz4 : ¬ (40 : Int) ≤ (d.size : Int) := by omega
  clear hcmp R hs
  go_enter Tryz.func87, Tryz.ntmps87
  go_wp2
  go_loopg [7, 8] 2 (fun kx s7 s8 wr => (s7 = .int .i64 0 ∧ s8 = .int .i64 20 ∧ 2 ≤ kx ∧ Aside (SWK enc 4 w blk 0 d wr)) ∨ (s7 = .int .i64 20 ∧ s8 = .int .i64 40 ∧ 1 ≤ kx ∧ Aside (SWK enc 4 w blk 0 (insertionSort (ltOf cf) d 0 20) wr)))
  case atStart => exact .inl ⟨rfl, rfl, Nat.le_refl _, S0⟩
  case round =>
    clear S0
    rcases hrel with ⟨rfl, rfl, hkx, S1⟩ | ⟨rfl, rfl, hkx, S1⟩
    · have H1 := Lib.hid (HI.out 0 20 d wr rfl S1.out (by omega) (by omega))
      go_wp2_with (go_at_call 116; refine H1.out.mono ?_; rintro e w4 ⟨rfl, S4x⟩; refine Hid.out ?_)
      refine Lib.hid ?_
      have S4 : Aside (SWK enc 4 w blk 0 (insertionSort (ltOf cf) d 0 20) w4) := S4x
      clear S4x S1
      go_wp2
      go_roundg 1
      case measure => omega
      case rel => exact .inr ⟨rfl, rfl, Nat.le_refl _, S4⟩
    · have H1 := Lib.hid (HI.out 20 d.size _ wr HZ.out.1.1 S1.out (by omega) (by omega))
      go_wp2_with (go_at_call 116; refine H1.out.mono ?_; rintro e w4 ⟨rfl, S4x⟩; refine Hid.out ?_)
      refine Lib.hid ?_
      have S4 : Aside (SWK enc 4 w blk 0 (insertionSort (ltOf cf) (insertionSort (ltOf cf) d 0 20) 20 d.size) w4) := S4x
      clear S4x S1
      go_wp2
      go_loopg [6] 1 (fun kx s6 wr => (s6 = .int .i64 20 ∧ 1 ≤ kx ∧ Aside (SWK enc 4 w blk 0 (insertionSort (ltOf cf) (insertionSort (ltOf cf) d 0 20) 20 d.size) wr)) ∨ (s6 = .int .i64 40 ∧ Aside (∃ d', SWK enc 4 w blk 0 d' wr ∧ PermIn 0 d.size d d' ∧ SortL (lexL (ltOf cf)) 0 d.size d')))
      case atStart => exact .inl ⟨rfl, Nat.le_refl _, S4⟩
      case round =>
        clear S4
        rcases hrel with ⟨rfl, hk2, S5⟩ | ⟨rfl, S5⟩
        · go_wp2
          go_loopg [7, 8] 0 (fun kx s7 s8 wr => s7 = .int .i64 0 ∧ s8 = .int .i64 40 ∧ Aside (SWK enc 4 w blk 0 (insertionSort (ltOf cf) (insertionSort (ltOf cf) d 0 20) 20 d.size) wr))
          case atStart => exact ⟨rfl, rfl, S5⟩
          case round =>
            clear S5
            obtain ⟨rfl, rfl, S6⟩ := hrel
            have H2 := Lib.hid (HY.out 20 d.size _ wr HL.out.1.1 S6.out (by omega) (by omega) (by omega) HL.out.2)
            go_wp2_with (go_at_call 117; refine H2.out.mono ?_; rintro e w7 ⟨rfl, d7, S7, P7, O7⟩; refine Hid.out ?_)
            refine Lib.hid ?_
            have S8 : Aside (∃ d', SWK enc 4 w blk 0 d' w7 ∧ PermIn 0 d.size d d' ∧ SortL (lexL (ltOf cf)) 0 d.size d') := ⟨d7, S7, permIn_trans _ _ _ _ _ HL.out.1 P7, O7⟩
            clear S7 P7 O7 S6
            go_wp2
            go_roundg 0
            case measure => omega
            case rel => exact .inr ⟨rfl, S8⟩
        · go_wp2
          first | go_end0 | (refine bodyPost_ret (results_none rfl _ _ _) rfl ?_)
          exact ⟨rfl, S5.out⟩

set_option maxHeartbeats 4000000 in
set_option maxRecDepth 1000000 in
theorem kStab_40 (enc : α × Nat → List Value) (cf : α × Nat → α × Nat → Int) (hO : SWO (ltOf cf)) (g : Nat) (cb : Array Value) (eg : ∀ args w, (callFunc g args).run Tryz.prog w = .ok (.enter g args) w) (blk cap : Nat) (d : Array (α × Nat)) (w : World) (hcmp : ∀ w, CmpLays Tryz.prog g cb enc 4 cf blk 0 d.size w)
    (R : RowK enc 4 w blk 0 d) (hs : ∀ i, i < d.size → d[i]!.2 = i) (hn : d.size = 40) :
    Calls Tryz.prog 87 #[.slice (some ⟨blk, 0, none⟩) d.size cap, .int .i64 d.size, .func (.func g) #[] cb] w fun e w' => e = .returned (.tuple #[]) ∧ ∃ d', SWK enc 4 w blk 0 d' w' ∧ PermIn 0 d.size d d' ∧ SortL (lexL (ltOf cf)) 0 d.size d' := by
  have S0 : Aside (SWK enc 4 w blk 0 d w) := SWK.start R.hH
  have HI : Aside (∀ (a b : Nat) (dk : Array (α × Nat)) (W : World), dk.size = d.size → SWK enc 4 w blk 0 dk W → a ≤ b → b ≤ d.size → Calls Tryz.prog 116 #[.slice (some ⟨blk, 0, none⟩) d.size cap, .int .i64 a, .int .i64 b, .func (.func g) #[] cb] W fun e w' => e = .returned (.tuple #[]) ∧ SWK enc 4 w blk 0 (insertionSort (ltOf cf) dk a b) w') :=
    fun a b dk W h1 h2 h3 h4 => kIns_in enc cf hO g cb eg blk 0 cap a b d dk w W hcmp R h1 h2 h3 h4 (by omega)
  have HY : Aside (∀ (m b : Nat) (dk : Array (α × Nat)) (W : World), dk.size = d.size → SWK enc 4 w blk 0 dk W → 0 < m → m < b → b ≤ d.size → TwoL (ltOf cf) (lexL (ltOf cf)) 0 m b dk → Calls Tryz.prog 117 #[.slice (some ⟨blk, 0, none⟩) d.size cap, .int .i64 0, .int .i64 m, .int .i64 b, .func (.func g) #[] cb] W fun e w' => e = .returned (.tuple #[]) ∧ ∃ d', SWK enc 4 w blk 0 d' w' ∧ PermIn 0 b dk d' ∧ SortL (lexL (ltOf cf)) 0 b d') :=
    fun m b dk W h1 h2 h3 h4 h5 h6 => kSym_any Tryz.func150 Tryz.func133 (enters_of Tryz.func150 (by kernel_rfl) rfl) (enters_of Tryz.func133 (by kernel_rfl) rfl) (enters_of Tryz.func117 (by kernel_rfl) rfl) stabT Tryz.func117 4 Tryz.isAgg67 Tryz.sizeOf67 enc cf g cb blk 0 cap d w eg (hcmp w) R (by omega) (lexL (ltOf cf)) (lexL_trans hO) b 0 m b dk W (by omega) h1 h2 h3 h4 h5 h6
  have HL := Lib.hid (two_blocks hO (n := d.size) (d := d) rfl (by omega) hs)
  have HZ := Lib.hid (ins_lex hO (a := 0) (b := 20) (d := d) (by omega) (by omega) (fun i _ hi => hs i (by omega)))
  have hz1 : (20 : Int) ≤ (d.size : Int) := by omega
  have hz2 : (20 : Int) < (d.size : Int) := by omega
  have hz3 : ¬ (40 : Int) < (d.size : Int) := by omega
  have hz4 : (40 : Int) ≤ (d.size : Int) := by omega
  have hz5 : ¬ (60 : Int) ≤ (d.size : Int) := by omega
  have hz6 : ¬ (60 : Int) < (d.size : Int) := by omega
  have hz7 : ¬ (80 : Int) ≤ (d.size : Int) := by omega
  have hq : d.size ≤ 40 ∧ 40 ≤ d.size := by omega
  have HN := Lib.hid hn
  clear hcmp R hs hn
  go_enter Tryz.func87, Tryz.ntmps87
  go_wp2
  go_loopg [7, 8] 2 (fun kx s7 s8 wr => (s7 = .int .i64 0 ∧ s8 = .int .i64 20 ∧ 2 ≤ kx ∧ Aside (SWK enc 4 w blk 0 d wr)) ∨ (s7 = .int .i64 20 ∧ s8 = .int .i64 40 ∧ 1 ≤ kx ∧ Aside (SWK enc 4 w blk 0 (insertionSort (ltOf cf) d 0 20) wr)) ∨ (s7 = .int .i64 40 ∧ s8 = .int .i64 60 ∧ Aside (SWK enc 4 w blk 0 (insertionSort (ltOf cf) (insertionSort (ltOf cf) d 0 20) 20 d.size) wr)))
  case atStart => exact .inl ⟨rfl, rfl, Nat.le_refl _, S0⟩
  case round =>
    clear S0
    rcases hrel with ⟨rfl, rfl, hkx, S1⟩ | ⟨rfl, rfl, hkx, S1⟩ | ⟨rfl, rfl, S1⟩
    · have H1 := Lib.hid (HI.out 0 20 d wr rfl S1.out (by omega) (by omega))
      go_wp2_with (go_at_call 116; refine H1.out.mono ?_; rintro e w4 ⟨rfl, S4x⟩; refine Hid.out ?_)
      refine Lib.hid ?_
      have S4 : Aside (SWK enc 4 w blk 0 (insertionSort (ltOf cf) d 0 20) w4) := S4x
      clear S4x S1
      go_wp2
      go_roundg 1
      case measure => omega
      case rel => exact .inr (.inl ⟨rfl, rfl, Nat.le_refl _, S4⟩)
    · have H1 := Lib.hid (HI.out 20 40 _ wr HZ.out.1.1 S1.out (by omega) (by omega))
      go_wp2_with (go_at_call 116; refine H1.out.mono ?_; rintro e w4 ⟨rfl, S4x⟩; refine Hid.out ?_)
      refine Lib.hid ?_
      have S4 : Aside (SWK enc 4 w blk 0 (insertionSort (ltOf cf) (insertionSort (ltOf cf) d 0 20) 20 d.size) w4) := (by rw [HN.out]; exact S4x)
      clear S4x S1
      go_wp2
      go_roundg 0
      case measure => omega
      case rel => exact .inr (.inr ⟨rfl, rfl, S4⟩)
    · have H1 := Lib.hid (HI.out 40 d.size _ wr HL.out.1.1 S1.out (by omega) (by omega))
      go_wp2_with (go_at_call 116; refine H1.out.mono ?_; rintro e w4 ⟨rfl, S4x⟩; refine Hid.out ?_)
      refine Lib.hid ?_
      have S4 : Aside (SWK enc 4 w blk 0 (insertionSort (ltOf cf) (insertionSort (ltOf cf) d 0 20) 20 d.size) w4) := (by have := S4x; rw [ins_done _ _ HN.out] at this; exact this)
      clear S4x S1
      go_wp2
      go_loopg [6] 1 (fun kx s6 wr => (s6 = .int .i64 20 ∧ 1 ≤ kx ∧ Aside (SWK enc 4 w blk 0 (insertionSort (ltOf cf) (insertionSort (ltOf cf) d 0 20) 20 d.size) wr)) ∨ (s6 = .int .i64 40 ∧ Aside (∃ d', SWK enc 4 w blk 0 d' wr ∧ PermIn 0 d.size d d' ∧ SortL (lexL (ltOf cf)) 0 d.size d')))
      case atStart => exact .inl ⟨rfl, Nat.le_refl _, S4⟩
      case round =>
        clear S4
        rcases hrel with ⟨rfl, hk2, S5⟩ | ⟨rfl, S5⟩
        · go_wp2
          go_loopg [7, 8] 1 (fun kx s7 s8 wr => (s7 = .int .i64 0 ∧ s8 = .int .i64 40 ∧ 1 ≤ kx ∧ Aside (SWK enc 4 w blk 0 (insertionSort (ltOf cf) (insertionSort (ltOf cf) d 0 20) 20 d.size) wr)) ∨ (s7 = .int .i64 40 ∧ s8 = .int .i64 80 ∧ Aside (∃ d', SWK enc 4 w blk 0 d' wr ∧ PermIn 0 d.size d d' ∧ SortL (lexL (ltOf cf)) 0 d.size d')))
          case atStart => exact .inl ⟨rfl, rfl, Nat.le_refl _, S5⟩
          case round =>
            clear S5
            rcases hrel with ⟨rfl, rfl, hk3, S6⟩ | ⟨rfl, rfl, S6⟩
            · have H2 := Lib.hid (HY.out 20 40 _ wr HL.out.1.1 S6.out (by omega) (by omega) (by omega) (by rw [← HN.out]; exact HL.out.2))
              go_wp2_with (go_at_call 117; refine H2.out.mono ?_; rintro e w7 ⟨rfl, d7, S7, P7, O7⟩; refine Hid.out ?_)
              refine Lib.hid ?_
              have S8 : Aside (∃ d', SWK enc 4 w blk 0 d' w7 ∧ PermIn 0 d.size d d' ∧ SortL (lexL (ltOf cf)) 0 d.size d') := ⟨d7, S7, permIn_trans _ _ _ _ _ HL.out.1 (by rw [HN.out] at P7 ⊢; exact P7), by rw [HN.out]; exact O7⟩
              clear S7 P7 O7 S6
              go_wp2
              go_roundg 0
              case measure => omega
              case rel => exact .inr ⟨rfl, rfl, S8⟩
            · go_wp2
              go_roundg 0
              case measure => omega
              case rel => exact .inr ⟨rfl, S6⟩
        · go_wp2
          first | go_end0 | (refine bodyPost_ret (results_none rfl _ _ _) rfl ?_)
          exact ⟨rfl, S5.out⟩

/-- At most forty. -/
theorem kStable_any (enc : α × Nat → List Value) (cf : α × Nat → α × Nat → Int) (hO : SWO (ltOf cf)) (g : Nat) (cb : Array Value) (eg : ∀ args w, (callFunc g args).run Tryz.prog w = .ok (.enter g args) w) (blk cap : Nat) (d : Array (α × Nat)) (w : World) (hcmp : ∀ w, CmpLays Tryz.prog g cb enc 4 cf blk 0 d.size w)
    (R : RowK enc 4 w blk 0 d) (hs : ∀ i, i < d.size → d[i]!.2 = i) (h40 : d.size ≤ 40) :
    Calls Tryz.prog 58 #[.slice (some ⟨blk, 0, none⟩) d.size cap, .func (.func g) #[] cb] w fun e w' => e = .returned (.tuple #[]) ∧ ∃ d', SWK enc 4 w blk 0 d' w' ∧ PermIn 0 d.size d d' ∧ SortL (lexL (ltOf cf)) 0 d.size d' := by
  have hk : Calls Tryz.prog 87 #[.slice (some ⟨blk, 0, none⟩) d.size cap, .int .i64 d.size, .func (.func g) #[] cb] w fun e w' => e = .returned (.tuple #[]) ∧ ∃ d', SWK enc 4 w blk 0 d' w' ∧ PermIn 0 d.size d d' ∧ SortL (lexL (ltOf cf)) 0 d.size d' := by
    by_cases c1 : d.size < 20
    · exact kStab_few enc cf hO g cb eg blk cap d w hcmp R hs c1
    · by_cases c2 : d.size = 20
      · exact kStab_20 enc cf hO g cb eg blk cap d w hcmp R hs c2
      · by_cases c3 : d.size = 40
        · exact kStab_40 enc cf hO g cb eg blk cap d w hcmp R hs c3
        · exact kStab_more enc cf hO g cb eg blk cap d w hcmp R hs (by omega) (by omega)
  have HK := Lib.hid hk
  clear hk hcmp R hs
  go_enter Tryz.func58, Tryz.ntmps58
  go_wp2_with (go_at_call 87; refine HK.out.mono ?_; rintro e w4 ⟨rfl, hd⟩; refine Hid.out ?_)
  refine Lib.hid ?_
  have HD := Lib.hid hd
  clear hd
  go_wp2
  first | go_end0 | (refine bodyPost_ret (results_none rfl _ _ _) rfl ?_)
  exact ⟨rfl, HD.out⟩

end Go.Proofs.YtmanjegdgjeeiaaGreatDoor
namespace Go.Proofs.YtmanjegdgjeeiaaGreatDoor
open Go.RowKit

/-! ### by rising keys -/
theorem before_iff : ∀ (a b : List UInt8), bytesBefore a b = true ↔ a < b
  | [], [] => by simp [bytesBefore]
  | [], _ :: _ => by simp [bytesBefore]
  | _ :: _, [] => by simp [bytesBefore]
  | a :: r, b :: s => by
    have ih := before_iff r s
    rw [bytesBefore, List.cons_lt_cons_iff, Bool.or_eq_true, Bool.and_eq_true, ih]
    simp
theorem key_irrefl (a : List UInt8) : ¬ a < a := fun h => by
  have := (before_iff a a).2 h
  rw [WideAt.bytes_irrefl] at this
  cases this
theorem key_trans {a b c : List UInt8} (h1 : a < b) (h2 : b < c) : a < c := (before_iff a c).1 (Go.WideShapes.bytes_trans a b c ((before_iff a b).2 h1) ((before_iff b c).2 h2))
theorem key_total {a b : List UInt8} (h : a ≠ b) : a < b ∨ b < a := by
  rcases WideAt.bytes_total a b h with h1 | h1
  · exact .inl ((before_iff a b).1 h1)
  · exact .inr ((before_iff b a).1 h1)
theorem key_asymm {a b : List UInt8} (h1 : a < b) : ¬ b < a := fun h2 => key_irrefl a (key_trans h1 h2)
theorem cmp_ltK : ∀ (x y : List UInt8), Lib.compareBytes x y < 0 ↔ x < y
  | [], [] => by simp [Lib.compareBytes]
  | [], _ :: _ => by simp [Lib.compareBytes]
  | _ :: _, [] => by simp [Lib.compareBytes]
  | a :: x, b :: y => by
    rw [Lib.compareBytes, List.cons_lt_cons_iff]
    by_cases h1 : a < b
    · simp [h1]
    · rw [if_neg h1]
      by_cases h2 : b < a
      · rw [if_pos h2]
        have : ¬ a = b := fun e => UInt8.lt_irrefl a (e ▸ h2)
        simp [h1, this]
      · rw [if_neg h2, cmp_ltK x y]
        have : a = b := UInt8.le_antisymm (UInt8.not_lt.1 h2) (UInt8.not_lt.1 h1)
        simp [this]

/-- An alert, put behind all whose keys are not above its own. -/
def insK (x : Rw) : List Rw → List Rw
  | [] => [x]
  | y :: l => if x.key < y.key then x :: y :: l else y :: insK x l
/-- Alerts by rising keys, those of one key in their order. -/
def sortR (L : List Rw) : List Rw := L.foldl (fun acc x => insK x acc) []

/-- The same, with the places at which they stood. -/
def insN (x : Rw × Nat) : List (Rw × Nat) → List (Rw × Nat)
  | [] => [x]
  | y :: l => if x.1.key < y.1.key then x :: y :: l else y :: insN x l
theorem insN_fst (x : Rw × Nat) : ∀ l, (insN x l).map Prod.fst = insK x.1 (l.map Prod.fst)
  | [] => rfl
  | y :: l => by
    rw [insN, List.map_cons, insK]
    split
    · rfl
    · rw [List.map_cons, insN_fst x l]
theorem insN_perm (x : Rw × Nat) : ∀ l, (insN x l).Perm (x :: l)
  | [] => List.Perm.refl _
  | y :: l => by
    rw [insN]
    split
    · exact List.Perm.refl _
    · exact ((insN_perm x l).cons y).trans (List.Perm.swap x y l)
theorem foldN_fst : ∀ (l acc : List (Rw × Nat)), (l.foldl (fun a x => insN x a) acc).map Prod.fst = (l.map Prod.fst).foldl (fun a x => insK x a) (acc.map Prod.fst)
  | [], _ => rfl
  | x :: l, acc => by rw [List.foldl_cons, List.map_cons, List.foldl_cons, foldN_fst l, insN_fst]
theorem foldN_perm : ∀ (l acc : List (Rw × Nat)), (l.foldl (fun a x => insN x a) acc).Perm (acc ++ l)
  | [], acc => by rw [List.append_nil]; exact List.Perm.refl _
  | x :: l, acc => by
    rw [List.foldl_cons]
    refine (foldN_perm l _).trans ?_
    refine ((insN_perm x acc).append_right l).trans ?_
    show (x :: acc ++ l).Perm (acc ++ x :: l)
    exact List.perm_middle.symm
def cfK (x y : Rw × Nat) : Int := Lib.compareBytes x.1.key y.1.key
theorem ltK (x y : Rw × Nat) : ltOf cfK x y = decide (x.1.key < y.1.key) := by
  unfold ltOf cfK
  rw [decide_eq_decide, cmp_ltK]
theorem swoK : Sort.SWO (ltOf cfK) where
  irrefl x := by rw [ltK]; exact decide_eq_false (key_irrefl _)
  trans x y z h1 h2 := by rw [ltK] at *; simp only [decide_eq_true_eq] at *; exact key_trans h1 h2
  ntrans x y z h1 h2 := by
    rw [ltK] at *
    simp only [decide_eq_false_iff_not] at *
    intro h
    by_cases e : y.1.key = x.1.key
    · rw [← e] at h; exact h2 h
    · rcases key_total e with hc | hc
      · exact h2 (key_trans hc h)
      · exact h1 hc
theorem lexK {x y : Rw × Nat} : lexL (ltOf cfK) x y ↔ x.1.key < y.1.key ∨ (x.1.key = y.1.key ∧ x.2 < y.2) := by
  unfold lexL
  rw [ltK, ltK]
  simp only [decide_eq_true_eq, decide_eq_false_iff_not]
  constructor
  · rintro (h | ⟨h1, h2, h3⟩)
    · exact .inl h
    · refine .inr ⟨?_, h3⟩
      by_cases e : x.1.key = y.1.key
      · exact e
      · rcases key_total e with hc | hc
        · exact absurd hc h1
        · exact absurd hc h2
  · rintro (h | ⟨h1, h2⟩)
    · exact .inl h
    · exact .inr ⟨by rw [h1]; exact key_irrefl _, by rw [h1]; exact key_irrefl _, h2⟩
theorem insN_lex (x : Rw × Nat) : ∀ l : List (Rw × Nat), (∀ y ∈ l, y.2 < x.2) → l.Pairwise (lexL (ltOf cfK)) → (insN x l).Pairwise (lexL (ltOf cfK))
  | [], _, _ => by simp [insN]
  | y :: l, hx, hl => by
    obtain ⟨h1, h2⟩ := List.pairwise_cons.1 hl
    rw [insN]
    split
    · rename_i hc
      refine List.pairwise_cons.2 ⟨fun z hz => ?_, hl⟩
      have hxy : lexL (ltOf cfK) x y := lexK.2 (.inl hc)
      rcases List.mem_cons.1 hz with rfl | hz
      · exact hxy
      · exact lexL_trans swoK _ _ _ hxy (h1 z hz)
    · rename_i hc
      refine List.pairwise_cons.2 ⟨fun z hz => ?_, insN_lex x l (fun z hz => hx z (List.mem_cons_of_mem _ hz)) h2⟩
      have hz' := (insN_perm x l).mem_iff.1 hz
      rcases List.mem_cons.1 hz' with rfl | hz'
      · by_cases e : y.1.key = z.1.key
        · exact lexK.2 (.inr ⟨e, hx y (List.mem_cons_self ..)⟩)
        · rcases key_total e with hd | hd
          · exact lexK.2 (.inl hd)
          · exact absurd hd hc
      · exact h1 z hz'
theorem foldN_lex : ∀ (l acc : List (Rw × Nat)), acc.Pairwise (lexL (ltOf cfK)) → (∀ y ∈ acc, ∀ x ∈ l, y.2 < x.2) → l.Pairwise (fun x y => x.2 < y.2) → (l.foldl (fun a x => insN x a) acc).Pairwise (lexL (ltOf cfK))
  | [], _, h, _, _ => h
  | x :: l, acc, h, h2, h3 => by
    obtain ⟨g1, g2⟩ := List.pairwise_cons.1 h3
    rw [List.foldl_cons]
    refine foldN_lex l _ (insN_lex x acc (fun y hy => h2 y hy x (List.mem_cons_self ..)) h) (fun y hy z hz => ?_) g2
    rcases List.mem_cons.1 ((insN_perm x acc).mem_iff.1 hy) with rfl | hy
    · exact g1 z hz
    · exact h2 y hy z (List.mem_cons_of_mem _ hz)
theorem zip_rise : ∀ (L : List Rw) (k : Nat), (L.zipIdx k).Pairwise (fun x y => x.2 < y.2)
  | [], _ => by simp
  | x :: L, k => by
    rw [List.zipIdx_cons]
    refine List.pairwise_cons.2 ⟨fun y hy => ?_, zip_rise L (k + 1)⟩
    have := List.le_snd_of_mem_zipIdx hy
    omega
/-- What is sorted so is that. -/
theorem sortR_of {L : List Rw} {N : List (Rw × Nat)} (hp : N.Perm L.zipIdx) (hs : N.Pairwise (lexL (ltOf cfK))) : N.map Prod.fst = sortR L := by
  have e : N = (L.zipIdx).foldl (fun a x => insN x a) [] := by
    refine List.Perm.eq_of_pairwise (le := fun x y => lexL (ltOf cfK) x y) ?_ hs (foldN_lex _ [] List.Pairwise.nil (by simp) (zip_rise L 0)) (hp.trans (by simpa using (foldN_perm L.zipIdx []).symm))
    intro x y _ _ h1 h2
    exfalso
    rcases lexK.1 h1 with h1 | ⟨h1, h1'⟩
    · rcases lexK.1 h2 with h2 | ⟨h2, _⟩
      · exact key_asymm h1 h2
      · rw [h2] at h1; exact key_irrefl _ h1
    · rcases lexK.1 h2 with h2 | ⟨_, h2'⟩
      · rw [h1] at h2; exact key_irrefl _ h2
      · omega
  rw [e, foldN_fst]
  have : (L.zipIdx).map Prod.fst = L := List.zipIdx_map_fst 0 L
  rw [this]
  rfl
theorem sortR_perm (L : List Rw) : (sortR L).Perm L := by
  have h := (foldN_perm L.zipIdx []).map Prod.fst
  rw [foldN_fst] at h
  have e : (L.zipIdx).map Prod.fst = L := List.zipIdx_map_fst 0 L
  simpa [e, sortR] using h


/-- Keyed alerts in blocks from B on. -/
def OwnK (w : World) (B : Nat) (v : Value) (L : List Rw) : Prop := w.ownsRow B 67 4 v L.length (cellsK L)
theorem infoKd : (Tryz.prog.info? 67).map (fun i => (i.zero, i.size, i.bytes)) = some (some (.agg #[.slice none 0 0, .int .i64 0, .int .i64 0, .string ⟨#[]⟩]), 4, 56) := by kernel_rfl
theorem OwnK.onB {w w' : World} {B N : Nat} {v : Value} {L : List Rw} (h : OwnK w B v L) (hb : Below N w w') (hN : w.heap.size ≤ N) : OwnK w' B v L :=
  World.ownsRow.kept h (grownBy_of_below (r := none) (hb.mono hN)) (by cases hv : v.ownBlock <;> simp)
theorem OwnK.push {w : World} {B : Nat} {v : Value} {L : List Rw} {r : Rw} (h : w.ownsRow B 67 4 v (L.length + 1) (cellsK L ++ encK r)) : OwnK w B v (L ++ [r]) := by
  unfold OwnK
  rw [List.length_append, cellsK_append]
  simpa [cellsK] using h
theorem OwnK.form {w : World} {B : Nat} {v : Value} {L : List Rw} (h : OwnK w B v L) : (v = .slice none 0 0 ∧ L = []) ∨ ∃ g c, v = .slice (some ⟨g, 0, none⟩) L.length c ∧ B ≤ g ∧ g < w.heap.size := by
  rcases h.2 with ⟨rfl, h0⟩ | ⟨g, cap, cur, rfl, hg0, hg1, -⟩
  · exact .inl ⟨rfl, List.eq_nil_of_length_eq_zero h0⟩
  · exact .inr ⟨g, cap, rfl, hg0, (Array.getElem?_eq_some_iff.1 hg1).1⟩

def encN (x : Rw × Nat) : List Value := encK x.1
theorem encK_at (r : Rw) (c : Nat) (hc : c < 4) (L : List Rw) (i : Nat) (hi : i < L.length) (e : L[i] = r) : (cellsK L)[i * 4 + c]? = some ((encK r)[c]'(by simp [encK]; omega)) := by
  subst e
  obtain ⟨h0, h1, h2, h3⟩ := cellsK_get L i hi
  match c, hc with
  | 0, _ => exact h0
  | 1, _ => exact h1
  | 2, _ => exact h2
  | 3, _ => exact h3
theorem ownK_holds [Inhabited Rw] {w : World} {B : Nat} {g c : Nat} {L : List Rw} (h : OwnK w B (.slice (some ⟨g, 0, none⟩) L.length c) L) : Sort.HoldsK encN 4 w g 0 (L.zipIdx).toArray := by
  intro j hj
  have hj' : j < L.length * 4 := by simpa [Sort.size_flatK] using hj
  have hcl := World.ownsRow.cells h (g := g) rfl
  have hi : j / 4 < L.length := by omega
  have e : (Sort.flatK encN 4 (L.zipIdx).toArray)[j]! = (cellsK L)[j]?.getD default := by
    rw [Sort.get_flatK _ _ _ _ (by simpa using hj')]
    have e1 := encK_at L[j / 4] (j % 4) (Nat.mod_lt _ (by omega)) L (j / 4) hi rfl
    rw [show j / 4 * 4 + j % 4 = j by omega] at e1
    rw [e1, getElem!_pos (L.zipIdx).toArray (j / 4) (by simpa using hi)]
    have e2 : (L.zipIdx).toArray[j / 4]'(by simpa using hi) = (L[j / 4], j / 4) := by simp
    rw [e2]
    show (encK L[j / 4])[j % 4]! = _
    rw [getElem!_pos (encK L[j / 4]) (j % 4) (by simp [encK]; omega)]
    rfl
  have hlen : j < (cellsK L).length := by rw [cellsK_len]; exact hj'
  have hc := hcl j _ (List.getElem?_eq_getElem hlen)
  rw [Go.WideShapes.add_plain] at hc
  rcases h.2 with ⟨h0, -⟩ | ⟨g', cap, cur, hv, hg0, hg1, hcap, hmax, hcs, htk⟩
  · cases h0
  · injection hv with hv1 hv2 hv3
    injection hv1 with hv1
    injection hv1 with hv1
    subst hv1
    refine ⟨?_, ?_⟩
    · rw [hc, e, List.getElem?_eq_getElem hlen]; rfl
    · simp [World.frozen?, hg1]

/-- Keyed alerts lie at an address. -/
def KeyedAt (w : World) (B : Nat) (a : Option Addr) (M : List Rw) : Prop :=
  0 < M.length → ∃ g, a = some ⟨g, 0, none⟩ ∧ B ≤ g ∧ g < w.heap.size ∧ ∀ i (hi : i < M.length), w.cell? ⟨g, i * 4, none⟩ = some (.slice M[i].ad M[i].ps.length M[i].cp) ∧ w.cell? ⟨g, i * 4 + 1, none⟩ = some (.int .i64 M[i].st) ∧ w.cell? ⟨g, i * 4 + 2, none⟩ = some (.int .i64 M[i].en) ∧ w.cell? ⟨g, i * 4 + 3, none⟩ = some (.string ⟨M[i].key.toArray⟩)
theorem KeyedAt.below {w w' : World} {B B' : Nat} {a : Option Addr} {M : List Rw} (h : KeyedAt w B a M) (hb : Below B' w w') (hB : w.heap.size ≤ B') : KeyedAt w' B a M := fun hn => by
  obtain ⟨g, rfl, h0, hgl, hc⟩ := h hn
  refine ⟨g, rfl, h0, Nat.lt_of_lt_of_le hgl hb.size, fun i hi => ?_⟩
  obtain ⟨h1, h2, h3, h4⟩ := hc i hi
  have hlt := Nat.lt_of_lt_of_le hgl hB
  rw [hb.cell (p := ⟨g, i * 4, none⟩) hlt, hb.cell (p := ⟨g, i * 4 + 1, none⟩) hlt, hb.cell (p := ⟨g, i * 4 + 2, none⟩) hlt, hb.cell (p := ⟨g, i * 4 + 3, none⟩) hlt]
  exact ⟨h1, h2, h3, h4⟩

theorem holds_keyed [Inhabited Rw] {w : World} {B g : Nat} {d : Array (Rw × Nat)} (h : Sort.HoldsK encN 4 w g 0 d) (hB : B ≤ g) (hg : g < w.heap.size) : KeyedAt w B (some ⟨g, 0, none⟩) (d.toList.map Prod.fst) := fun _ => by
  refine ⟨g, rfl, hB, hg, fun i hi => ?_⟩
  have hi' : i < d.size := by simpa using hi
  have e0 := (h.cell (i := i) (c := 0) hi' (by omega)).1
  have e1 := (h.cell (i := i) (c := 1) hi' (by omega)).1
  have e2 := (h.cell (i := i) (c := 2) hi' (by omega)).1
  have e3 := (h.cell (i := i) (c := 3) hi' (by omega)).1
  rw [getElem!_pos d i hi'] at e0 e1 e2 e3
  rw [Nat.zero_add] at e0 e1 e2 e3
  simp only [List.getElem_map, Array.getElem_toList]
  exact ⟨e0, e1, e2, e3⟩

set_option maxHeartbeats 1000000 in
theorem cmpK_any (x y : Rw × Nat) (W : World) : Calls Tryz.prog 59 #[.agg (encN x).toArray, .agg (encN y).toArray] W fun e w' => e = .returned (.int .i64 (cfK x y)) ∧ ∃ q os', w' = Sort.grow (W.drewN q) os' := by
  have hcon := fun W' => Any.strings_Compare Tryz.lCompare ⟨x.1.key.toArray⟩ ⟨y.1.key.toArray⟩ W'
  change ∀ W', Calls Tryz.prog 28 _ _ _ at hcon
  have e : Lib.compareBytes (⟨x.1.key.toArray⟩ : ByteArray).data.toList (⟨y.1.key.toArray⟩ : ByteArray).data.toList = cfK x y := rfl
  rw [e] at hcon
  generalize cfK x y = r at hcon ⊢
  obtain ⟨⟨xps, xs, xe, xa, xc⟩, xi⟩ := x
  obtain ⟨⟨yps, ys, ye, ya, yc⟩, yi⟩ := y
  simp only [encN, encK]
  generalize (Rw.key ⟨xps, xs, xe, xa, xc⟩).toArray = kx at *
  generalize (Rw.key ⟨yps, ys, ye, ya, yc⟩).toArray = ky at *
  clear e
  go_enter Tryz.func59, Tryz.ntmps59
  go_wp2_with (go_at_call 28; refine (hcon _).mono ?_; rintro e w' ⟨rfl, rfl⟩)
  go_ret
  exact ⟨rfl, 0, _, by rw [Sort.alloc_eq_grow, Sort.alloc_eq_grow, Sort.grow_grow]; rfl⟩

theorem below_sortK [Inhabited Rw] {B : Nat} {w w' : World} {g : Nat} {d : Array (Rw × Nat)} (hg : B ≤ g) (hB : B ≤ w.heap.size) (S : SWK encN 4 w g 0 d w') : Below B w w' := by
  obtain ⟨n, os, rfl⟩ := S
  refine ⟨rfl, rfl, rfl, size_sortWorldK_c encN 4 w g 0 n d os, fun k hk => ?_⟩
  unfold sortWorldK Sort.grow Sort.putRowK Sort.putRow Sort.mapBlock Sort.ahead
  show ((w.heap.modify g _) ++ os)[k]? = _
  rw [Array.getElem?_append_left (by simp; omega), Array.getElem?_modify, if_neg (by omega)]

set_option maxHeartbeats 1000000 in
theorem stabNil (w : World) (c : Nat) (fv : Value) : Calls Tryz.prog 58 #[.slice none 0 c, fv] w fun e w' => e = .returned (.tuple #[]) ∧ w' = w := by
  have hI := AnyF.insertionSortCmpFunc_none Tryz.lIns none c fv w
  change Calls Tryz.prog 116 _ _ _ at hI
  have hS : Calls Tryz.prog 87 #[.slice none 0 c, .int .i64 0, fv] w fun e w' => e = .returned (.tuple #[]) ∧ w' = w := by
    go_enter Tryz.func87, Tryz.ntmps87
    go_wp2
    go_loopg [7, 8] 0 (fun kx s7 s8 wr => s7 = .int .i64 0 ∧ s8 = .int .i64 20 ∧ wr = w)
    case atStart => exact ⟨rfl, rfl, rfl⟩
    case round =>
      obtain ⟨rfl, rfl, hw⟩ := hrel
      rw [hw]
      go_wp2_with (go_at_call 116; refine hI.mono ?_; rintro e w4 ⟨rfl, h4⟩; rw [h4]; refine Hid.out ?_)
      refine Lib.hid ?_
      go_wp2
      go_loopg [6] 0 (fun kx s6 wr => s6 = .int .i64 20 ∧ wr = w)
      case atStart => exact ⟨rfl, rfl⟩
      case round =>
        obtain ⟨rfl, hw2⟩ := hrel
        rw [hw2]
        go_wp2
        first | go_end0 | (refine bodyPost_ret (results_none rfl _ _ _) rfl ?_)
        exact ⟨rfl, rfl⟩
  have HS := Lib.hid hS
  clear hS hI
  go_enter Tryz.func58, Tryz.ntmps58
  go_wp2_with (go_at_call 87; refine HS.out.mono ?_; rintro e w4 ⟨rfl, h4⟩; rw [h4]; refine Hid.out ?_)
  refine Lib.hid ?_
  go_wp2
  first | go_end0 | (refine bodyPost_ret (results_none rfl _ _ _) rfl ?_)
  exact ⟨rfl, rfl⟩

/-- The sort, at keyed alerts of the call's own. -/
theorem kSort_own (a : Option Addr) (c : Nat) (L : List Rw) (B : Nat) (w : World) (h : OwnK w B (.slice a L.length c) L) (hB : B ≤ w.heap.size) (h40 : L.length ≤ 40) (n : Nat) (hn : n = L.length) :
    Calls Tryz.prog 58 #[.slice a n c, .func (.func 59) #[] #[]] w fun e w' => e = .returned (.tuple #[]) ∧ KeyedAt w' B a (sortR L) ∧ Below B w w' := by
  subst hn
  rcases h.form with ⟨hv, rfl⟩ | ⟨g, c', hv, hg, hgl⟩
  · simp only [Value.slice.injEq] at hv
    obtain ⟨rfl, -, rfl⟩ := hv
    exact (stabNil w 0 _).mono fun e w' ⟨he, hw⟩ => ⟨he, (fun hn => absurd hn (by simp [sortR])), by rw [hw]; exact Below.refl _ _⟩
  · simp only [Value.slice.injEq] at hv
    obtain ⟨rfl, -, rfl⟩ := hv
    haveI : Inhabited Rw := ⟨⟨[], 0, 0, none, 0⟩⟩
    have hH := ownK_holds h
    have hsz : (L.zipIdx).toArray.size = L.length := by simp
    have hk := kStable_any encN cfK swoK 59 #[] (enters_of Tryz.func59 (by kernel_rfl) rfl) g c (L.zipIdx).toArray w (fun w m os dk _ x y => cmpK_any x y _) ⟨fun _ => rfl, fun x v hv => by simp [encN, encK] at hv; rcases hv with rfl | rfl | rfl | rfl <;> rfl, hH, hgl⟩
      (fun i hi => by rw [getElem!_pos _ i hi]; simp) (by rw [hsz]; exact h40)
    rw [hsz] at hk
    refine hk.mono ?_
    rintro e w' ⟨he, d', S, hp, ho⟩
    have hd : d'.size = L.length := by rw [hp.1, hsz]
    have hperm : d'.toList.Perm L.zipIdx := by
      have h2 := hp.2.2
      have e1 : d'.extract 0 L.length = d' := by rw [← hd]; exact Array.extract_size
      have e2 : (L.zipIdx).toArray.extract 0 L.length = (L.zipIdx).toArray := by rw [← hsz]; exact Array.extract_size
      rw [e1, e2] at h2
      simpa using h2
    have hpw : d'.toList.Pairwise (lexL (ltOf cfK)) := by
      rw [List.pairwise_iff_getElem]
      intro i j hi hj hij
      simp only [Array.length_toList] at hi hj
      have := ho i j (Nat.zero_le _) hij (by omega)
      rw [getElem!_pos d' i hi, getElem!_pos d' j hj] at this
      simpa using this
    refine ⟨he, ?_, below_sortK hg (by omega) S⟩
    rw [← sortR_of hperm hpw]
    exact holds_keyed (S.holds hgl hH (by rw [hd, hsz])) hg (S.lt hgl)

theorem keep3_below {w w' : World} {B x : Nat} {v1 v2 v3 : Value} (hb : Below B w w') (hx : x < B) (h : w.cell? ⟨x, 0, none⟩ = some v1 ∧ w.cell? ⟨x, 1, none⟩ = some v2 ∧ w.cell? ⟨x, 2, none⟩ = some v3) : w'.cell? ⟨x, 0, none⟩ = some v1 ∧ w'.cell? ⟨x, 1, none⟩ = some v2 ∧ w'.cell? ⟨x, 2, none⟩ = some v3 :=
  ⟨by rw [hb.cell (p := ⟨x, 0, none⟩) hx]; exact h.1, by rw [hb.cell (p := ⟨x, 1, none⟩) hx]; exact h.2.1, by rw [hb.cell (p := ⟨x, 2, none⟩) hx]; exact h.2.2⟩
theorem keep3_grown {w w' : World} {r : Option Nat} {x : Nat} {v1 v2 v3 : Value} (hg : w.grownBy w' r) (hx : x < w.heap.size) (h : w.cell? ⟨x, 0, none⟩ = some v1 ∧ w.cell? ⟨x, 1, none⟩ = some v2 ∧ w.cell? ⟨x, 2, none⟩ = some v3) (hne : some x ≠ r) : w'.cell? ⟨x, 0, none⟩ = some v1 ∧ w'.cell? ⟨x, 1, none⟩ = some v2 ∧ w'.cell? ⟨x, 2, none⟩ = some v3 :=
  ⟨by rw [hg.cell_far ⟨x, 0, none⟩ hx hne]; exact h.1, by rw [hg.cell_far ⟨x, 1, none⟩ hx hne]; exact h.2.1, by rw [hg.cell_far ⟨x, 2, none⟩ hx hne]; exact h.2.2⟩

set_option maxHeartbeats 4000000 in
set_option maxRecDepth 100000 in
theorem gByKey_any (a : Option Addr) (c : Nat) (L : List Rw) (B : Nat) (w : World) (h : AlsAt w a L) (hl : L.length ≤ 40) (hL : ∀ r ∈ L, RwLight r) (hB : B ≤ w.heap.size) (hv : TabOk B w) (n : Nat) (hn : n = L.length) :
    Calls Tryz.prog 22 #[.slice a n c] w fun e w' => ∃ a' c', e = .returned (.slice a' n c') ∧ KeyedAt w' w.heap.size a' (sortR L) ∧ Below w.heap.size w w' := by
  subst hn
  obtain ⟨i0, hi, hi0, hi1, hi2⟩ := info_parts infoKd
  have HL := Lib.hid hL
  clear hL
  go_enter Tryz.func22, Tryz.ntmps22
  go_wp2
  go_loopw [3, 8] (fun v i wr => ∃ (k : Nat) (a7 : Option Addr) (n7 c7 : Nat), k ≤ L.length ∧ i = .int .i64 k ∧ v = .slice a7 n7 c7 ∧ n7 = k ∧ Hid (OwnK wr w.heap.size (.slice a7 n7 c7) (L.take k)) ∧ Below w.heap.size w wr) (fun _ i _ => L.length - (intOf i).toNat)
  case atStart => exact ⟨0, none, 0, 0, Nat.zero_le _, rfl, rfl, rfl, Lib.hid (World.ownsRow_nil _ _ _ _), Below.refl _ _⟩
  case round =>
    obtain ⟨k, a7, n7, c7, hk, rfl, rfl, rfl, HO, hnx⟩ := hrel
    have hs1 := hnx.size
    have hvr := hv.on (hnx.mono hB)
    by_cases hlt : n7 < L.length
    · have hkl : (n7 : Int) < (L.length : Int) := by omega
      have hr := (h.below hnx (Nat.le_refl _))
      obtain ⟨b, o, rfl, hbl, hc⟩ := hr (by omega)
      obtain ⟨hc1, hc2, hc3, hpa⟩ := hc n7 hlt
      have hli := HL.out L[n7] (List.getElem_mem _)
      have HT : Hid (L.take (n7 + 1) = L.take n7 ++ [L[n7]]) := Lib.hid (List.take_succ_eq_append_getElem hlt)
      have HOl : Hid ((L.take n7).length = n7) := Lib.hid (by rw [List.length_take]; omega)
      clear hc h hr
      generalize L[n7] = r0 at *
      generalize L.take n7 = T0 at *
      have hfl := hli.flat
      have hwb : Below w.heap.size w (wr.alloc (.cells #[.slice r0.ad r0.ps.length r0.cp, .int .i64 r0.st, .int .i64 r0.en] 42)) := hnx.alloc hs1 _
      have dwb := (Below.refl wr.heap.size wr).alloc (Nat.le_refl _) (.cells #[.slice r0.ad r0.ps.length r0.cp, .int .i64 r0.st, .int .i64 r0.en] 42)
      have hx1 : (wr.alloc (.cells #[.slice r0.ad r0.ps.length r0.cp, .int .i64 r0.st, .int .i64 r0.en] 42)).cell? ⟨wr.heap.size, 0, none⟩ = some (.slice r0.ad r0.ps.length r0.cp) := by rw [World.cell?_alloc_mark]; rfl
      have hx2 : (wr.alloc (.cells #[.slice r0.ad r0.ps.length r0.cp, .int .i64 r0.st, .int .i64 r0.en] 42)).cell? ⟨wr.heap.size, 1, none⟩ = some (.int .i64 r0.st) := by rw [World.cell?_alloc_mark]; rfl
      have hx3 : (wr.alloc (.cells #[.slice r0.ad r0.ps.length r0.cp, .int .i64 r0.st, .int .i64 r0.en] 42)).cell? ⟨wr.heap.size, 2, none⟩ = some (.int .i64 r0.en) := by rw [World.cell?_alloc_mark]; rfl
      have hsb : (wr.alloc (.cells #[.slice r0.ad r0.ps.length r0.cp, .int .i64 r0.st, .int .i64 r0.en] 42)).heap.size = wr.heap.size + 1 := by simp
      have hxne : some wr.heap.size ≠ (Value.slice a7 n7 c7).ownBlock := fun e => absurd (HO.out.lt _ e.symm).2 (Nat.lt_irrefl _)
      have hpb := hpa.below dwb (Nat.le_refl _)
      have HOb := Lib.hid (HO.out.onB dwb (Nat.le_refl _))
      go_wp2
      generalize wr.alloc (.cells #[.slice r0.ad r0.ps.length r0.cp, .int .i64 r0.st, .int .i64 r0.en] 42) = wb at *
      have hvb := hv.on (hwb.mono hB)
      generalize wr.heap.size = x at *
      clear hc1 hc2 hc3 hpa dwb HO hnx hvr
      have hwbs := hwb.size
      have HKe : Hid (r0.key = keyL r0.ps) := Lib.hid rfl
      go_region_held3 (fun w' => w'.cell? ⟨x, 0, none⟩ = some (.slice r0.ad r0.ps.length r0.cp) ∧ w'.cell? ⟨x, 1, none⟩ = some (.int .i64 r0.st) ∧ w'.cell? ⟨x, 2, none⟩ = some (.int .i64 r0.en)) (first | go_keep | (exact keep3_below hb1 (by simp; omega) (by assumption)) | (exact keep3_grown hgrow3 (by simp; omega) (by assumption) hxne))
        (first
          | (go_at_call 57; refine (Key_any r0.ad r0.cp r0.ps B wb.drew (hpb.below (Below.refl _ _).drew (Nat.le_refl _)) (by have := hli.1; omega) (fun p hp => by have := hli.2 p hp; omega) (by omega) (by simp; omega) (hvb.on (Below.refl _ _).drew) _ rfl).mono ?_; rintro e w1 ⟨rfl, hb1⟩; have hq1 : wb.heap.size ≤ w1.heap.size := by simpa using hb1.size)
          | (refine step_append_lies _ (by rfl) _ _ 64 (by rfl) w.heap.size 67 i0 (.agg #[.slice none 0 0, .int .i64 0, .int .i64 0, .string ⟨#[]⟩]) 4 56 Tryz.underlying64 hi hi0 hi1 hi2 rfl (by decide) (.slice a7 n7 c7) n7 (cellsK T0) (by rfl) (by have := World.ownsRow.alloc ((HOb.out.onB (Below.refl _ _).drew (Nat.le_refl _)).onB hb1 (by simp)) (.cells #[.slice r0.ad r0.ps.length r0.cp, .int .i64 r0.st, .int .i64 r0.en, .string ⟨(keyL r0.ps).toArray⟩] 67); rw [HOl.out] at this; exact this) ⟨w1.heap.size, 0, none⟩ 1 1 [.slice r0.ad r0.ps.length r0.cp, .int .i64 r0.st, .int .i64 r0.en, .string ⟨(keyL r0.ps).toArray⟩] (by rfl) rfl (World.news_of_block (cs := #[.slice r0.ad r0.ps.length r0.cp, .int .i64 r0.st, .int .i64 r0.en, .string ⟨(keyL r0.ps).toArray⟩]) (heap_alloc_new _ _)) (by intro u' hu'; simp at hu'; rcases hu' with rfl | rfl | rfl | rfl <;> rfl) (by decide) (by unfold maxLen; omega) (by omega) (by simp; omega) (w1.heap.size + 1) (by simp) ?_; intro g cap w3 hown3 hgrow3 hat3 hlt3))
      have hbb : Below wb.heap.size wb w1 := (Below.refl wb.heap.size wb).drew.trans (hb1.mono (by simp))
      have HO3 : Hid (OwnK w3 w.heap.size (.slice (some ⟨g, 0, none⟩) (n7 + 1) cap) (L.take (n7 + 1))) := Lib.hid (by
        rw [HT.out]
        refine OwnK.push ?_
        rw [HOl.out]
        exact hown3)
      have hnx3 : Below w.heap.size w w3 := ((hwb.trans (hbb.mono hwbs)).alloc (by omega) _).grown hgrow3 (by simp; omega) (fun j hj => (HOb.out.lt j hj).1)
      clear hown3 hgrow3 hat3
      go_wp2
      go_roundw
      case rel => exact ⟨n7 + 1, _, _, _, by omega, by go_num, rfl, rfl, HO3, hnx3⟩
      case measure => simp [intOf]; omega
    · obtain rfl : n7 = L.length := by omega
      rw [List.take_length] at HO
      have HS := Lib.hid (kSort_own a7 c7 L w.heap.size wr HO.out hs1 hl _ rfl)
      clear HO h
      go_wp2_with (go_at_call 58; refine HS.out.mono ?_; rintro e w4 ⟨rfl, hk4, hb4⟩; refine Hid.out ?_)
      refine Lib.hid ?_
      have HK4 := Lib.hid (And.intro hk4 (hnx.trans hb4))
      clear hk4 hb4 hnx HS hvr
      go_wp2
      go_ret
      exact ⟨_, _, rfl, HK4.out.1, HK4.out.2⟩

end Go.Proofs.YtmanjegdgjeeiaaGreatDoor
