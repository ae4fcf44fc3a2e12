/-
  What Get does: the value of the first pair of a name. Matchers, plainly: which error one has, and whether labels are as it asks. What Check and One of package match do, at whatever matcher and labels. What One of package match does, at whatever matcher and labels. DERIVED: THE SHELF's CONTRACTS AT THIS DUMP, IN PLAIN WORDS (tools/lay-plain.mjs out of 'YtcngifkoopcmeaaGreatDoorMShelfRaw.lean', which tools/lay-shelf.mjs wrote): THE SAME DECLARATIONS UNDER THE SAME NAMES: 'import', 'namespace', 'open', 'def', 'theorem' AND NOTHING ELSE: no command of the shelf's: FOR A HAND-IN. Each laying: the table of numbers ('.._ren') and one theorem, a field a fact of the dump's own or the kernel's comparison; each contract: ONE APPLICATION. Matchers in memory; what All and CheckAll of package match do. CheckAll of package match.
-/
import Derived.Test.YtcngifkoopcmeaaGreatDoorK13
import Derived.Shelf.Small.Wraps
import Derived.Ground.NamesProg
import Derived.Shelf.SlicesQ.IndexFunc
import Derived.Shelf.SlGeneric
import Derived.Ground.SlgfProg
import Derived.Test.YtcngifkoopcmeaaGreatDoorProg
namespace Go.Proofs.YtcngifkoopcmeaaGreatDoor
open Go.RowKit

/-- None of the first k pairs has this name. -/
theorem getV_skip (ps : List Pr) (n : List UInt8) (k : Nat) (hk : k ≤ ps.length) (h : ∀ j, j < k → ∀ hj : j < ps.length, nm ps[j] ≠ n) : getV ps n = getV (ps.drop k) n := by
  induction k with
  | zero => simp
  | succ k ih =>
    rw [ih (by omega) (fun j hj => h j (by omega)), List.drop_eq_getElem_cons (by omega : k < ps.length)]
    unfold getV
    rw [List.find?_cons]
    have := h k (by omega) (by omega)
    simp only [beq_eq_false_iff_ne.2 this]
theorem getV_hit (ps : List Pr) (n : List UInt8) (k : Nat) (hk : k < ps.length) (h : ∀ j, j < k → ∀ hj : j < ps.length, nm ps[j] ≠ n) (he : nm ps[k] = n) : getV ps n = ps[k].2 := by
  rw [getV_skip ps n k (by omega) h, List.drop_eq_getElem_cons hk]
  unfold getV
  rw [List.find?_cons]
  simp only [beq_iff_eq.2 he]

set_option maxHeartbeats 1000000 in
theorem Get_any (a : Option Addr) (c : Nat) (ps : List Pr) (s : ByteArray) (w : World) (h : PairsAt w a ps) (hn : ps.length ≤ 9223372036854775807) (n : Nat) (hnl : n = ps.length) :
    Calls Tryz.prog 150 #[.slice a n c, .string s] w fun e w' => e = .returned (.string (getV ps s.toList)) ∧ Below w.heap.size w w' := by
  subst hnl
  go_enter Tryz.func150, Tryz.ntmps150
  go_wp2
  go_loopw [9] (fun i wr => ∃ k : Nat, k ≤ ps.length ∧ i = .int .i64 k ∧ Below w.heap.size w wr ∧ ∀ j, j < k → ∀ hj : j < ps.length, nm ps[j] ≠ s.toList) (fun i _ => ps.length - (intOf i).toNat)
  case atStart => exact ⟨0, Nat.zero_le _, rfl, Below.refl _ _, fun j hj => absurd hj (Nat.not_lt_zero _)⟩
  case round =>
    obtain ⟨k, hk, rfl, hb, hall⟩ := hrel
    by_cases hlt : k < ps.length
    · have hkl : (k : Int) < (ps.length : Int) := by omega
      obtain ⟨b, o, rfl, hc⟩ := h (by omega)
      obtain ⟨hc1, hc2⟩ := hc k hlt
      rw [← hb.cell (p := ⟨b, o + k * 2, none⟩) (World.block_lt_of_cell? w _ hc1)] at hc1
      rw [← hb.cell (p := ⟨b, o + k * 2 + 1, none⟩) (World.block_lt_of_cell? w _ hc2)] at hc2
      have hs := hb.size
      clear hc h
      by_cases hE : nm ps[k] = s.toList
      · have hE' : (ps[k].1.toList == s.toList) = true := beq_iff_eq.2 hE
        have HV := Lib.hid (getV_hit ps s.toList k hlt hall hE)
        clear hall hE
        go_wp2
        go_ret
        exact ⟨by rw [HV.out]; rfl, hb.alloc hs _⟩
      · have hE' : (ps[k].1.toList == s.toList) = false := beq_eq_false_iff_ne.2 hE
        have HA := Lib.hid (upto_succ hall fun _ => hE)
        clear hall hE
        go_wp2
        go_roundw
        case rel => exact ⟨k + 1, by omega, by go_num, hb.alloc hs _, HA.out⟩
        case measure => simp [intOf]; omega
    · obtain rfl : k = ps.length := by omega
      have HV : Hid (getV ps s.toList = ⟨#[]⟩) := by
        rw [getV_skip ps s.toList ps.length (Nat.le_refl _) hall, List.drop_length]
        exact rfl
      clear hall
      go_wp2
      go_ret
      exact ⟨by rw [HV.out]; rfl, hb⟩

end Go.Proofs.YtcngifkoopcmeaaGreatDoor
namespace Go.Proofs.YtcngifkoopcmeaaGreatDoor

/-- A matcher: its name, its comparison, its value. -/
abbrev Mt := ByteArray × Nat × ByteArray
/-- A text is like a pattern. -/
def likeP (p t : List UInt8) : Prop := ∃ A, pParse p = some A ∧ A t
/-- Which error a matcher has. -/
def mErr (m : Mt) : Int := if ¬ NameOk m.1 then 6 else if 3 < m.2.1 then 2 else if 64 < m.2.2.size then 5 else if 2 ≤ m.2.1 then errE m.2.2.data.toList else 0
/-- What a matcher asks of a value. -/
def mHas (m : Mt) (v : ByteArray) : Prop := (m.2.1 = 0 ∧ v.toList = m.2.2.toList) ∨ (m.2.1 = 1 ∧ v.toList ≠ m.2.2.toList) ∨ (m.2.1 = 2 ∧ likeP m.2.2.data.toList v.data.toList) ∨ (m.2.1 = 3 ∧ ¬ likeP m.2.2.data.toList v.data.toList)
/-- Labels are as a matcher asks. -/
def mAsk (ps : List Pr) (m : Mt) : Prop := mErr m = 0 ∧ mHas m (getV ps m.1.toList)

theorem mErr_zero {m : Mt} (h : mErr m = 0) : NameOk m.1 ∧ m.2.1 ≤ 3 ∧ m.2.2.size ≤ 64 ∧ (2 ≤ m.2.1 → errE m.2.2.data.toList = 0) := by
  unfold mErr at h
  split at h
  · cases h
  · rename_i h1
    split at h
    · cases h
    · split at h
      · cases h
      · refine ⟨Classical.not_not.1 h1, by omega, by omega, fun h2 => ?_⟩
        rw [if_pos h2] at h
        exact h
theorem likeP_of {p : List UInt8} {A : Lang} (h : pParse p = some A) (t : List UInt8) : likeP p t ↔ A t :=
  ⟨fun ⟨B, h1, h2⟩ => by rw [h] at h1; obtain rfl := Option.some.inj h1; exact h2, fun h2 => ⟨A, h, h2⟩⟩

/-- Of a matcher that may be, and the one that asks the contrary, just one is so. -/
def mNot (m : Mt) : Mt := (m.1, m.2.1 ^^^ 1, m.2.2)
theorem xor_one (n : Nat) (h : n ≤ 3) : (n = 0 ∧ n ^^^ 1 = 1) ∨ (n = 1 ∧ n ^^^ 1 = 0) ∨ (n = 2 ∧ n ^^^ 1 = 3) ∨ (n = 3 ∧ n ^^^ 1 = 2) := by
  rcases (by omega : n = 0 ∨ n = 1 ∨ n = 2 ∨ n = 3) with rfl | rfl | rfl | rfl <;> decide
theorem mErr_not {m : Mt} (h : mErr m = 0) : mErr (mNot m) = 0 := by
  obtain ⟨h1, h2, h3, h4⟩ := mErr_zero h
  unfold mErr mNot
  rw [if_neg (Classical.not_not.2 h1)]
  have hx := xor_one m.2.1 h2
  simp only
  rw [if_neg (by omega), if_neg (by omega)]
  split
  · exact h4 (by omega)
  · rfl
theorem mAsk_not {m : Mt} (ps : List Pr) (h : mErr m = 0) : mAsk ps (mNot m) ↔ ¬ mAsk ps m := by
  obtain ⟨-, h2, -, -⟩ := mErr_zero h
  have h5 := mErr_not h
  unfold mAsk
  simp only [h, h5, true_and]
  show mHas (mNot m) (getV ps m.1.toList) ↔ _
  obtain ⟨n, o, v⟩ := m
  simp only at h2
  unfold mHas mNot
  rcases (by omega : o = 0 ∨ o = 1 ∨ o = 2 ∨ o = 3) with rfl | rfl | rfl | rfl <;> simp

end Go.Proofs.YtcngifkoopcmeaaGreatDoor
namespace Go.Proofs.YtcngifkoopcmeaaGreatDoor
open Go.RowKit

/-- A matcher as a value. -/
def encM (m : Mt) : List Value := [.string m.1, .int .u8 (m.2.1 : Int), .string m.2.2]

set_option maxHeartbeats 1000000 in
theorem mCheck_any (n : ByteArray) (o : Nat) (v : ByteArray) (w : World) (htab : TabW w) :
    Calls Tryz.prog 121 #[.agg #[.string n, .int .u8 (o : Int), .string v]] w fun e w' => e = .returned (.int .i64 (mErr (n, o, v))) ∧ Below w.heap.size w w' := by
  have HN := Lib.hid (fun u => Name_any n u)
  have htl := htab.lt
  unfold mErr
  by_cases h1 : NameOk n
  · rw [decide_eq_true h1] at HN
    rw [if_neg (Classical.not_not.2 h1)]
    clear h1
    by_cases h2 : 3 < o
    · rw [if_pos h2]
      have h2' : (3 : Int) < (o : Int) := by omega
      clear h2
      go_enter Tryz.func121, Tryz.ntmps121
      go_wp2_with (go_at_call 70; refine (HN.out _).mono ?_; rintro e w1 ⟨rfl, rfl⟩)
      go_ret
      exact ⟨rfl, (Below.refl _ _).alloc (Nat.le_refl _) _⟩
    · rw [if_neg h2]
      have h2' : ¬ (3 : Int) < (o : Int) := by omega
      by_cases h3 : 64 < v.size
      · rw [if_pos h3]
        have h3' : (64 : Int) < (v.size : Int) := by omega
        clear h2 h3
        go_enter Tryz.func121, Tryz.ntmps121
        go_wp2_with (go_at_call 70; refine (HN.out _).mono ?_; rintro e w1 ⟨rfl, rfl⟩)
        go_ret
        exact ⟨rfl, (Below.refl _ _).alloc (Nat.le_refl _) _⟩
      · rw [if_neg h3]
        have h3' : ¬ (64 : Int) < (v.size : Int) := by omega
        by_cases h4 : 2 ≤ o
        · rw [if_pos h4]
          have hT := Lib.hid (fun (o : Obj) => htab.on ((Below.refl w.heap.size w).alloc (Nat.le_refl _) o) htl)
          by_cases h5 : errE v.data.toList = 0
          · rw [h5]
            obtain ⟨h6, A, hA⟩ := errE_zero h5
            have HC := Lib.hid (fun u (hu : TabW u) => comp_good v u (by omega) hu A hA)
            clear h5 hA
            rcases (by omega : o = 2 ∨ o = 3) with rfl | rfl
            all_goals
              clear h4 h3 h2
              go_enter Tryz.func121, Tryz.ntmps121
              go_wp2_with (first | (go_at_call 70; refine (HN.out _).mono ?_; rintro e w1 ⟨rfl, rfl⟩) | (go_at_call 153; refine (HC.out _ (hT.out _)).mono ?_; rintro e w1 ⟨xb, rfl, hp, hb1⟩))
              go_ret
              exact ⟨rfl, ((Below.refl _ _).alloc (Nat.le_refl _) _).trans (hb1.mono (by simp))⟩
          · have HC := Lib.hid (fun u (hu : TabW u) => comp_err v u hu h5)
            generalize errE v.data.toList = E at *
            clear h5
            rcases (by omega : o = 2 ∨ o = 3) with rfl | rfl
            all_goals
              clear h4 h3 h2
              go_enter Tryz.func121, Tryz.ntmps121
              go_wp2_with (first | (go_at_call 70; refine (HN.out _).mono ?_; rintro e w1 ⟨rfl, rfl⟩) | (go_at_call 153; refine (HC.out _ (hT.out _)).mono ?_; rintro e w1 ⟨rfl, hb1⟩))
              go_ret
              exact ⟨rfl, ((Below.refl _ _).alloc (Nat.le_refl _) _).trans (hb1.mono (by simp))⟩
        · rw [if_neg h4]
          rcases (by omega : o = 0 ∨ o = 1) with rfl | rfl
          all_goals
            clear h4 h3 h2
            go_enter Tryz.func121, Tryz.ntmps121
            go_wp2_with (go_at_call 70; refine (HN.out _).mono ?_; rintro e w1 ⟨rfl, rfl⟩)
            go_ret
            exact ⟨rfl, (Below.refl _ _).alloc (Nat.le_refl _) _⟩
  · rw [decide_eq_false h1] at HN
    rw [if_pos h1]
    clear h1
    go_enter Tryz.func121, Tryz.ntmps121
    go_wp2_with (go_at_call 70; refine (HN.out _).mono ?_; rintro e w1 ⟨rfl, rfl⟩)
    go_ret
    exact ⟨rfl, (Below.refl _ _).alloc (Nat.le_refl _) _⟩


theorem mAsk_no {ps : List Pr} {m : Mt} (h : mErr m ≠ 0) : ¬ mAsk ps m := fun k => h k.1
theorem tells_of {A : Prop} {b : Bool} (h : b = true ↔ A) : Tells A (.returned (.bool b)) := ⟨b, rfl, h⟩

/-- A matcher in a block. -/
def MtBlk (w : World) (b : Nat) (m : Mt) : Prop := w.heap[b]? = some (.cells #[.string m.1, .int .u8 (m.2.1 : Int), .string m.2.2] 131 (0, 0))
theorem MtBlk.lt {w : World} {b : Nat} {m : Mt} (h : MtBlk w b m) : b < w.heap.size := (Array.getElem?_eq_some_iff.1 h).1
theorem MtBlk.below {w w' : World} {b : Nat} {m : Mt} (h : MtBlk w b m) (hb : Below w.heap.size w w') : MtBlk w' b m := (hb.block b h.lt).trans h
theorem MtBlk.cell0 {w : World} {b : Nat} {m : Mt} (h : MtBlk w b m) : w.cell? ⟨b, 0, none⟩ = some (.string m.1) := by unfold MtBlk at h; simp [World.cell?, h]
theorem MtBlk.cell1 {w : World} {b : Nat} {m : Mt} (h : MtBlk w b m) : w.cell? ⟨b, 1, none⟩ = some (.int .u8 (m.2.1 : Int)) := by unfold MtBlk at h; simp [World.cell?, h]
theorem MtBlk.cell2 {w : World} {b : Nat} {m : Mt} (h : MtBlk w b m) : w.cell? ⟨b, 2, none⟩ = some (.string m.2.2) := by unfold MtBlk at h; simp [World.cell?, h]

set_option maxRecDepth 20000 in
set_option maxHeartbeats 2000000 in
theorem mOne_any (n : ByteArray) (o : Nat) (v : ByteArray) (a : Option Addr) (c : Nat) (ps : List Pr) (w : World) (htab : TabW w) (h : PairsAt w a ps) (hn : ps.length ≤ 9223372036854775807) (hv : ∀ p ∈ ps, p.2.size ≤ 9223372036854775807) (k : Nat) (hk : k = ps.length) :
    Calls Tryz.prog 114 #[.agg #[.string n, .int .u8 (o : Int), .string v], .slice a k c] w fun e w' => Tells (mAsk ps (n, o, v)) e ∧ Below w.heap.size w w' := by
  subst hk
  have HC := Lib.hid (fun u (hu : TabW u) => mCheck_any n o v u hu)
  have htl := htab.lt
  have hbA := Lib.hid (fun (o : Obj) => (Below.refl w.heap.size w).alloc (Nat.le_refl _) o)
  have hT := Lib.hid (fun (o : Obj) => htab.on (hbA.out o) htl)
  by_cases he : mErr (n, o, v) = 0
  · rw [he] at HC
    obtain ⟨-, ho, h64, hE⟩ := mErr_zero he
    simp only at ho h64 hE
    have hA : mAsk ps (n, o, v) ↔ mHas (n, o, v) (getV ps n.toList) := by unfold mAsk; simp [he]
    have hvg : (getV ps n.toList).size ≤ 9223372036854775807 := by
      unfold getV
      split
      · rename_i p hp
        exact hv p (List.mem_of_find?_eq_some hp)
      · decide
    have HG := Lib.hid (fun u (hu : PairsAt u a ps) => Get_any a c ps n u hu hn _ rfl)
    generalize getV ps n.toList = V at *
    simp only [hA]
    clear hA hv
    go_enter Tryz.func114, Tryz.ntmps114
    go_wp2_with (go_at_call 121; refine (HC.out _ (hT.out _)).mono ?_; rintro e w1 ⟨rfl, hb1⟩; refine Hid.out ?_)
    refine Lib.hid ?_
    have hb1' := (hbA.out _).trans (hb1.mono (by simp))
    have HG1 := Lib.hid (HG.out w1 (h.below hb1' (Nat.le_refl _)))
    have hm0 : MtBlk w1 w.heap.size (n, o, v) := (hb1.block w.heap.size (by simp)).trans (heap_new w _)
    have c0 : w1.cell? ⟨w.heap.size, 0, none⟩ = some (.string n) := hm0.cell0
    go_wp2_with (go_at_call 150; refine HG1.out.mono ?_; rintro e w2 ⟨rfl, hb2⟩; refine Hid.out ?_)
    refine Lib.hid ?_
    have hb2' := hb1'.trans (hb2.mono hb1'.size)
    have hm2 : MtBlk w2 w.heap.size (n, o, v) := (hb2.block w.heap.size hm0.lt).trans hm0
    have c1 : w2.cell? ⟨w.heap.size, 1, none⟩ = some (.int .u8 (o : Int)) := hm2.cell1
    have c2 : w2.cell? ⟨w.heap.size, 2, none⟩ = some (.string v) := hm2.cell2
    clear c0 HG HG1 HC hb1 hm0 hb2 hbA
    rcases (by omega : o = 0 ∨ o = 1 ∨ o = 2 ∨ o = 3) with rfl | rfl | rfl | rfl
    · have HF : Hid ((V.toList == v.toList) = true ↔ mHas (n, 0, v) V) := Lib.hid (by unfold mHas; simp)
      go_wp2_with fail
      go_ret
      exact ⟨tells_of HF.out, hb2'⟩
    · have HF : Hid ((V.toList != v.toList) = true ↔ mHas (n, 1, v) V) := Lib.hid (by unfold mHas; simp)
      go_wp2_with fail
      go_ret
      exact ⟨tells_of HF.out, hb2'⟩
    all_goals
      obtain ⟨h6, A, hA⟩ := errE_zero (hE (by decide))
      have HL := Lib.hid (like_good v V w2 h64 (htab.on hb2' htl) A hA hvg)
      have HP := Lib.hid (likeP_of hA V.data.toList)
      clear hA hE h6 hT htab
    · go_wp2_with (go_at_call 151; refine HL.out.mono ?_; rintro e w3 ⟨⟨b, rfl, hb⟩, hb3⟩; have HB := Lib.hid hb; clear hb; refine Hid.out ?_)
      refine Lib.hid ?_
      have c1' : w3.cell? ⟨w.heap.size, 1, none⟩ = some (.int .u8 2) := (hb3.cell (p := ⟨w.heap.size, 1, none⟩) hm2.lt).trans c1
      clear c1 c2 HL
      go_wp2_with fail
      go_ret
      refine ⟨tells_of ?_, hb2'.trans (hb3.mono hb2'.size)⟩
      unfold mHas
      simp [HP.out, HB.out]
    · go_wp2_with (go_at_call 151; refine HL.out.mono ?_; rintro e w3 ⟨⟨b, rfl, hb⟩, hb3⟩; have HB := Lib.hid hb; clear hb; refine Hid.out ?_)
      refine Lib.hid ?_
      have c1' : w3.cell? ⟨w.heap.size, 1, none⟩ = some (.int .u8 3) := (hb3.cell (p := ⟨w.heap.size, 1, none⟩) hm2.lt).trans c1
      clear c1 c2 HL
      go_wp2_with fail
      go_ret
      refine ⟨tells_of ?_, hb2'.trans (hb3.mono hb2'.size)⟩
      unfold mHas
      simp [HP.out, ← HB.out]
  · have HN := Lib.hid (mAsk_no (ps := ps) he)
    have hb : ((mErr (n, o, v) : Int) != 0) = true := by simpa using he
    generalize mErr (n, o, v) = Er at *
    clear he
    go_enter Tryz.func114, Tryz.ntmps114
    go_wp2_with (go_at_call 121; refine (HC.out _ (hT.out _)).mono ?_; rintro e w1 ⟨rfl, hb1⟩)
    go_ret
    exact ⟨⟨false, rfl, by simpa using HN.out⟩, (hbA.out _).trans (hb1.mono (by simp))⟩

end Go.Proofs.YtcngifkoopcmeaaGreatDoor
namespace Go.Proofs
open Go.Shelf
def Tryz.lCutPrefix_ren : Go.Shelf.Ren := ⟨fun | 103 => 74 | 210 => 123 | 206 => 155 | n => n, fun | 9 => 9 | 4 => 4 | 24 => 123 | 3 => 3 | n => n, fun | n => n⟩
theorem Tryz.lCutPrefix : Go.Proofs.Lays.n103 Tryz.prog Tryz.lCutPrefix_ren := {
  mixed := by kernel_rfl
  f103 := Tryz.func74.trans (congrArg some (by kernel_rfl))
  f206 := Tryz.func155.trans (congrArg some (by kernel_rfl))
  f210 := Tryz.func123.trans (congrArg some (by kernel_rfl))
  t3 := Tryz.underlying3
  a3 := Tryz.isAgg3
  z3 := Tryz.sizeOf3
  v3 := Tryz.zeroValue3
  t4 := Tryz.underlying4
  a4 := Tryz.isAgg4
  z4 := Tryz.sizeOf4
  v4 := Tryz.zeroValue4
  t9 := Tryz.underlying9
  a9 := Tryz.isAgg9
  z9 := Tryz.sizeOf9
  v9 := Tryz.zeroValue9
  t24 := Tryz.underlying123
  a24 := Tryz.isAgg123
  z24 := Tryz.sizeOf123
  v24 := Tryz.zeroValue123 }
def Tryz.lIdxFunc_ren : Go.Shelf.Ren := ⟨fun | 6 => 119 | n => n, fun | 22 => 48 | 23 => 131 | 25 => 160 | 3 => 3 | 0 => 0 | 4 => 4 | n => n, fun | n => n⟩
theorem Tryz.lIdxFunc : Go.Proofs.SlLaysH0.n6 Tryz.prog Tryz.lIdxFunc_ren := {
  mixed := by kernel_rfl
  f6 := ⟨Tryz.f119.name, by decide, Tryz.func119.trans (congrArg some (by kernel_rfl))⟩
  t0 := Tryz.underlying0
  a0 := Tryz.isAgg0
  z0 := Tryz.sizeOf0
  v0 := Tryz.zeroValue0
  t3 := Tryz.underlying3
  a3 := Tryz.isAgg3
  z3 := Tryz.sizeOf3
  v3 := Tryz.zeroValue3
  t4 := Tryz.underlying4
  a4 := Tryz.isAgg4
  z4 := Tryz.sizeOf4
  v4 := Tryz.zeroValue4
  t22 := Tryz.underlying48
  a22 := Tryz.isAgg48
  z22 := Tryz.sizeOf48
  v22 := Tryz.zeroValue48
  t25 := Tryz.underlying160
  a25 := Tryz.isAgg160
  z25 := Tryz.sizeOf160
  v25 := Tryz.zeroValue160 }
def Tryz.lHasFunc_ren : Go.Shelf.Ren := ⟨fun | 8 => 112 | 6 => 119 | n => n, fun | 22 => 48 | 23 => 131 | 25 => 160 | 4 => 4 | 3 => 3 | 0 => 0 | n => n, fun | n => n⟩
theorem Tryz.lHasFunc : Go.Proofs.SlLaysH0.n8 Tryz.prog Tryz.lHasFunc_ren := {
  mixed := by kernel_rfl
  f6 := ⟨Tryz.f119.name, by decide, Tryz.func119.trans (congrArg some (by kernel_rfl))⟩
  f8 := ⟨Tryz.f112.name, by decide, Tryz.func112.trans (congrArg some (by kernel_rfl))⟩
  t0 := Tryz.underlying0
  a0 := Tryz.isAgg0
  z0 := Tryz.sizeOf0
  v0 := Tryz.zeroValue0
  t3 := Tryz.underlying3
  a3 := Tryz.isAgg3
  z3 := Tryz.sizeOf3
  v3 := Tryz.zeroValue3
  t4 := Tryz.underlying4
  a4 := Tryz.isAgg4
  z4 := Tryz.sizeOf4
  v4 := Tryz.zeroValue4
  t22 := Tryz.underlying48
  a22 := Tryz.isAgg48
  z22 := Tryz.sizeOf48
  v22 := Tryz.zeroValue48
  t25 := Tryz.underlying160
  a25 := Tryz.isAgg160
  z25 := Tryz.sizeOf160
  v25 := Tryz.zeroValue160 }
end Go.Proofs
namespace Go.Proofs.YtcngifkoopcmeaaGreatDoor
open Go.RowKit Go.Shelf

/-- Matchers lie at an address; where there are none, anywhere. -/
def MtsAt (w : World) (a : Option Addr) (ms : List Mt) : Prop :=
  0 < ms.length → ∃ b o, a = some ⟨b, o, none⟩ ∧ b < w.heap.size ∧ ∀ i (hi : i < ms.length), w.cell? ⟨b, o + i * 3, none⟩ = some (.string ms[i].1) ∧ w.cell? ⟨b, o + i * 3 + 1, none⟩ = some (.int .u8 (ms[i].2.1 : Int)) ∧ w.cell? ⟨b, o + i * 3 + 2, none⟩ = some (.string ms[i].2.2)
theorem MtsAt.below {w w' : World} {a : Option Addr} {ms : List Mt} {B : Nat} (h : MtsAt w a ms) (hb : Below B w w') (hB : w.heap.size ≤ B) : MtsAt w' a ms := fun hn => by
  obtain ⟨b, o, rfl, hbl, hc⟩ := h hn
  refine ⟨b, o, rfl, Nat.lt_of_lt_of_le hbl hb.size, fun i hi => ?_⟩
  obtain ⟨h1, h2, h3⟩ := hc i hi
  have hl : b < B := Nat.lt_of_lt_of_le hbl hB
  exact ⟨by rw [hb.cell (p := ⟨b, o + i * 3, none⟩) hl]; exact h1, by rw [hb.cell (p := ⟨b, o + i * 3 + 1, none⟩) hl]; exact h2, by rw [hb.cell (p := ⟨b, o + i * 3 + 2, none⟩) hl]; exact h3⟩
theorem MtsAt.cells {w : World} {b o : Nat} {ms : List Mt} (h : ∀ i (hi : i < ms.length), w.cell? ⟨b, o + i * 3, none⟩ = some (.string ms[i].1) ∧ w.cell? ⟨b, o + i * 3 + 1, none⟩ = some (.int .u8 (ms[i].2.1 : Int)) ∧ w.cell? ⟨b, o + i * 3 + 2, none⟩ = some (.string ms[i].2.2)) :
    ∀ j, j < ms.length → ∀ i v, (encM ms[j]!)[i]? = some v → w.cell? ⟨b, o + j * 3 + i, none⟩ = some v := fun j hj i v hv => by
  obtain ⟨h1, h2, h3⟩ := h j hj
  rw [getElem!_pos ms j hj] at hv
  match i, hv with
  | 0, hv => simp [encM] at hv; rw [← hv]; exact h1
  | 1, hv => simp [encM] at hv; rw [← hv]; exact h2
  | 2, hv => simp [encM] at hv; rw [← hv]; exact h3
  | i + 3, hv => simp [encM] at hv

set_option maxHeartbeats 1000000 in
theorem idx_none (a : Option Addr) (c : Nat) (fv : Value) (w : World) : Calls Tryz.prog 119 #[.slice a 0 c, fv] w fun e w' => e = .returned (.int .i64 (-1)) ∧ w' = w := by
  go_enter Tryz.func119, Tryz.ntmps119
  go_wp2
  go_loopg [5, 8] 0 (fun _ _ s8 wr => s8 = .int .i64 0 ∧ wr = w)
  case atStart => exact ⟨rfl, rfl⟩
  case round =>
    obtain ⟨rfl, rfl⟩ := hrel
    go_wp2
    go_ret
    exact ⟨rfl, rfl⟩
set_option maxHeartbeats 1000000 in
theorem has_none (a : Option Addr) (c : Nat) (fv : Value) (w : World) : Calls Tryz.prog 112 #[.slice a 0 c, fv] w fun e w' => e = .returned (.bool false) ∧ w' = w := by
  have HI := Lib.hid (fun u => idx_none a c fv u)
  go_enter Tryz.func112, Tryz.ntmps112
  go_wp2_with (go_at_call 119; refine (HI.out _).mono ?_; rintro e w' ⟨rfl, rfl⟩)
  go_ret
  exact ⟨rfl, rfl⟩

set_option maxHeartbeats 1000000 in
theorem notOne_any (B : Nat) (a : Option Addr) (c : Nat) (ps : List Pr) (p : Mt → Bool) (hp : ∀ x, p x = true ↔ ¬ mAsk ps x) (w : World) (htab : TabW w) (h : PairsAt w a ps) (hn : ps.length ≤ 9223372036854775807) (hv : ∀ q ∈ ps, q.2.size ≤ 9223372036854775807) (hB : B < w.heap.size) (hc : w.cell? ⟨B, 0, none⟩ = some (.slice a ps.length c)) :
    PredBelow Tryz.prog 113 #[.pointer (some ⟨B, 0, none⟩)] (fun x => .agg (encM x).toArray) p w := fun W x hb => by
  obtain ⟨n, o, v⟩ := x
  have htl := htab.lt
  have hA := hb.alloc hb.size (.cells #[.string n, .int .u8 (o : Int), .string v] 131)
  have hcA : (W.alloc (.cells #[.string n, .int .u8 (o : Int), .string v] 131)).cell? ⟨B, 0, none⟩ = some (.slice a ps.length c) := (hA.cell (p := ⟨B, 0, none⟩) hB).trans hc
  have HO := Lib.hid (mOne_any n o v a c ps (W.alloc (.cells #[.string n, .int .u8 (o : Int), .string v] 131)) (htab.on hA htl) (h.below hA (Nat.le_refl _)) hn hv _ rfl)
  have HP := Lib.hid (hp (n, o, v))
  clear h htab hv hp
  show Calls Tryz.prog 113 #[.agg #[.string n, .int .u8 (o : Int), .string v], .pointer (some ⟨B, 0, none⟩)] W _
  go_enter Tryz.func113, Tryz.ntmps113
  go_wp2_with (go_at_call 114; refine HO.out.mono ?_; rintro e w1 ⟨⟨b, rfl, hb1⟩, q1⟩; have HB := Lib.hid hb1; clear hb1)
  go_ret
  refine ⟨?_, hA.trans (q1.mono hA.size)⟩
  have e : (!b) = p (n, o, v) := by
    have k1 := HB.out
    have k2 := HP.out
    cases b <;> cases hq : p (n, o, v) <;> simp_all
  rw [← e]
  rfl

set_option maxHeartbeats 2000000 in
theorem mAll_any (a : Option Addr) (c : Nat) (ms : List Mt) (b : Option Addr) (d : Nat) (ps : List Pr) (w : World) (htab : TabW w) (hm : MtsAt w a ms) (hml : ms.length ≤ 9223372036854775807) (h : PairsAt w b ps) (hn : ps.length ≤ 9223372036854775807) (hv : ∀ q ∈ ps, q.2.size ≤ 9223372036854775807) (k : Nat) (hk : k = ms.length) :
    Calls Tryz.prog 60 #[.slice a k c, .slice b ps.length d] w fun e w' => Tells (∀ m ∈ ms, mAsk ps m) e ∧ Below w.heap.size w w' := by
  subst hk
  have htl := htab.lt
  have hA := (Below.refl w.heap.size w).alloc (Nat.le_refl _) (.cells #[.slice b ps.length d] 40)
  by_cases h0 : ms.length = 0
  · have HN := Lib.hid (fun fv u => has_none a c fv u)
    have hms : ms = [] := List.eq_nil_of_length_eq_zero h0
    have HT : Hid (∀ m ∈ ms, mAsk ps m) := Lib.hid (by rw [hms]; intro m hm; cases hm)
    have h0' : (ms.length : Int) = 0 := by omega
    rw [h0]
    clear h0' hms hm hml h0
    go_enter Tryz.func60, Tryz.ntmps60
    go_wp2_with (go_at_call 112; refine (HN.out _ _).mono ?_; rintro e w1 ⟨rfl, rfl⟩)
    go_ret
    exact ⟨⟨true, rfl, by simpa using HT.out⟩, hA⟩
  · obtain ⟨p, hp⟩ : ∃ p : Mt → Bool, ∀ x, p x = true ↔ ¬ mAsk ps x := ⟨fun x => @decide (¬ mAsk ps x) (Classical.propDecidable _), fun x => by simp⟩
    obtain ⟨mb, mo, rfl, hmb, hc⟩ := hm (by omega)
    have eg : ∀ args w, (callFunc 113 args).run Tryz.prog w = .ok (.enter 113 args) w := enters_of Tryz.func113 (by kernel_rfl) rfl
    have hcA : (w.alloc (.cells #[.slice b ps.length d] 40)).cell? ⟨w.heap.size, 0, none⟩ = some (.slice b ps.length d) := cell_heap (heap_new w _)
    have hcon := AnyQ.slices_ContainsFunc Tryz.lHasFunc 3 Tryz.isAgg131 Tryz.sizeOf131 encM (fun _ => rfl) p 113 #[.pointer (some ⟨w.heap.size, 0, none⟩)] eg mb mo ms.length c ms (w.alloc (.cells #[.slice b ps.length d] 40))
      (notOne_any w.heap.size b d ps p hp _ (htab.on hA htl) (h.below hA (Nat.le_refl _)) hn hv (by simp) hcA) (Nat.le_refl _) hml (by simp; omega) (MtsAt.cells fun i hi => by
        obtain ⟨h1, h2, h3⟩ := hc i hi
        exact ⟨by rw [hA.cell (p := ⟨mb, mo + i * 3, none⟩) hmb]; exact h1, by rw [hA.cell (p := ⟨mb, mo + i * 3 + 1, none⟩) hmb]; exact h2, by rw [hA.cell (p := ⟨mb, mo + i * 3 + 2, none⟩) hmb]; exact h3⟩)
    change Calls Tryz.prog 112 _ _ _ at hcon
    have HT : Hid ((!(ms.take ms.length).any p) = true ↔ ∀ m ∈ ms, mAsk ps m) := Lib.hid (by
      rw [List.take_length]
      simp only [Bool.not_eq_true', List.any_eq_false]
      constructor
      · intro k m hm
        exact Classical.not_not.1 fun e => k m hm ((hp m).2 e)
      · intro k m hm e
        exact (hp m).1 e (k m hm))
    generalize (ms.take ms.length).any p = r at *
    have HC := Lib.hid hcon
    clear hcon hc hp eg hcA h hv
    go_enter Tryz.func60, Tryz.ntmps60
    go_wp2_with (go_at_call 112; refine HC.out.mono ?_; rintro e w1 ⟨rfl, q1⟩)
    go_ret
    exact ⟨⟨!r, rfl, HT.out⟩, hA.trans (q1.mono hA.size)⟩

end Go.Proofs.YtcngifkoopcmeaaGreatDoor
namespace Go.Proofs.YtcngifkoopcmeaaGreatDoor
open Go.RowKit Go.Shelf

/-- The first error of matchers. -/
def allE : List Mt → Int
  | [] => 0
  | m :: r => if mErr m ≠ 0 then mErr m else allE r
def checkAllE (ms : List Mt) : Int := if 8 < ms.length then 5 else allE ms
theorem allE_none : ∀ {ms : List Mt}, (∀ m ∈ ms, mErr m = 0) → allE ms = 0
  | [], _ => rfl
  | m :: r, h => by
    unfold allE
    rw [if_neg (by simpa using h m (by simp))]
    exact allE_none fun x hx => h x (by simp [hx])
theorem allE_hit : ∀ {ms : List Mt} {k : Nat} (hk : k < ms.length), (∀ j (_ : j < k) (hj : j < ms.length), mErr ms[j] = 0) → mErr ms[k] ≠ 0 → allE ms = mErr ms[k]
  | m :: r, 0, _, _, h => by
    unfold allE
    exact if_pos h
  | m :: r, k + 1, hk, hz, h => by
    unfold allE
    have h0 : mErr m = 0 := hz 0 (by omega) (by simp)
    rw [if_neg (by simpa using h0)]
    exact allE_hit (k := k) (by simpa using hk) (fun j hj hl => hz (j + 1) (by omega) (by simpa using hl)) h
/-- All may be, or there is a first one that may not. -/
theorem first_bad (ms : List Mt) : (∀ m ∈ ms, mErr m = 0) ∨ ∃ k, ∃ hk : k < ms.length, (∀ j (_ : j < k) (hj : j < ms.length), mErr ms[j] = 0) ∧ mErr ms[k] ≠ 0 := by
  induction ms with
  | nil => left; intro m hm; cases hm
  | cons m r ih =>
    by_cases h : mErr m = 0
    · rcases ih with ih | ⟨k, hk, h1, h2⟩
      · left; intro x hx; rcases List.mem_cons.1 hx with rfl | hx
        · exact h
        · exact ih x hx
      · right
        refine ⟨k + 1, by simpa using hk, fun j hj hl => ?_, h2⟩
        cases j with
        | zero => exact h
        | succ j => exact h1 j (by omega) (by simpa using hl)
    · right
      exact ⟨0, by simp, fun j hj => absurd hj (Nat.not_lt_zero _), h⟩

set_option maxHeartbeats 1000000 in
theorem bad_any (w : World) (htab : TabW w) : PredBelow Tryz.prog 120 #[] (fun x => .agg (encM x).toArray) (fun x => mErr x != 0) w := fun W x hb => by
  obtain ⟨n, o, v⟩ := x
  have hA := hb.alloc hb.size (.cells #[.string n, .int .u8 (o : Int), .string v] 131)
  have HC := Lib.hid (mCheck_any n o v _ (htab.on hA htab.lt))
  show Calls Tryz.prog 120 #[.agg #[.string n, .int .u8 (o : Int), .string v]] W fun e w' => e = .returned (.bool (mErr (n, o, v) != 0)) ∧ Below w.heap.size w w'
  generalize mErr (n, o, v) = E at *
  go_enter Tryz.func120, Tryz.ntmps120
  go_wp2_with (go_at_call 121; refine HC.out.mono ?_; rintro e w1 ⟨rfl, q1⟩)
  go_ret
  exact ⟨rfl, hA.trans (q1.mono hA.size)⟩

set_option maxRecDepth 20000 in
set_option maxHeartbeats 2000000 in
theorem mCheckAll_any (a : Option Addr) (c : Nat) (ms : List Mt) (w : World) (htab : TabW w) (hm : MtsAt w a ms) (hml : ms.length ≤ 9223372036854775807) :
    Calls Tryz.prog 71 #[.slice a ms.length c] w fun e w' => e = .returned (.int .i64 (checkAllE ms)) ∧ Below w.heap.size w w' := by
  unfold checkAllE
  have htl := htab.lt
  by_cases h8 : 8 < ms.length
  · have h8' : (8 : Int) < (ms.length : Int) := by omega
    rw [if_pos h8]
    clear h8
    go_enter Tryz.func71, Tryz.ntmps71
    go_wp2
    go_ret
    exact ⟨rfl, Below.refl _ _⟩
  have h8' : ¬ (8 : Int) < (ms.length : Int) := by omega
  rw [if_neg h8]
  by_cases h0 : ms.length = 0
  · have hms : ms = [] := List.eq_nil_of_length_eq_zero h0
    subst hms
    have HN := Lib.hid (fun fv u => idx_none a c fv u)
    clear h0 h8 h8'
    show Calls Tryz.prog 71 #[.slice a 0 c] w fun e w' => e = .returned (.int .i64 0) ∧ Below w.heap.size w w'
    go_enter Tryz.func71, Tryz.ntmps71
    go_wp2_with (go_at_call 119; refine (HN.out _ _).mono ?_; rintro e w1 ⟨rfl, rfl⟩)
    go_ret
    exact ⟨rfl, Below.refl _ _⟩
  · obtain ⟨mb, mo, rfl, hmb, hc⟩ := hm (by omega)
    have eg : ∀ args w, (callFunc 120 args).run Tryz.prog w = .ok (.enter 120 args) w := enters_of Tryz.func120 (by kernel_rfl) rfl
    have hcon := AnyQ.slices_IndexFunc Tryz.lIdxFunc 3 Tryz.isAgg131 Tryz.sizeOf131 encM (fun _ => rfl) (fun x => mErr x != 0) 120 #[] eg mb mo ms.length c ms w (bad_any w htab) (Nat.le_refl _) hml hmb (MtsAt.cells hc)
    change Calls Tryz.prog 119 _ _ _ at hcon
    rcases first_bad ms with hall | ⟨k, hk, h1, h2⟩
    · rw [Lib.idxBy_miss (fun _ y => mErr y != 0) ms ms.length default (fun j hj => by rw [getElem!_pos ms j hj]; simp [hall _ (List.getElem_mem hj)])] at hcon
      rw [allE_none hall]
      have HC := Lib.hid hcon
      clear hcon hc eg hall hm
      go_enter Tryz.func71, Tryz.ntmps71
      go_wp2_with (go_at_call 119; refine HC.out.mono ?_; rintro e w1 ⟨rfl, q1⟩)
      go_ret
      exact ⟨rfl, q1⟩
    · rw [Lib.idxBy_hit (fun _ y => mErr y != 0) ms ms.length k default hk (Nat.le_refl _) (by rw [getElem!_pos ms k hk]; simpa using h2) (fun j hj => by rw [getElem!_pos ms j (by omega)]; simp [h1 j hj (by omega)])] at hcon
      rw [allE_hit hk h1 h2]
      obtain ⟨E, hE⟩ : ∃ E, E = mErr ms[k] := ⟨_, rfl⟩
      rw [← hE]
      have HC := Lib.hid hcon
      have hkl : (k : Int) < (ms.length : Int) := by omega
      have hk0 : ¬ (k : Int) < 0 := by omega
      obtain ⟨d0, d1, d2⟩ := hc k hk
      have HK : Hid (∀ u, TabW u → Calls Tryz.prog 121 #[.agg #[.string ms[k].1, .int .u8 (ms[k].2.1 : Int), .string ms[k].2.2]] u fun e w' => e = .returned (.int .i64 E) ∧ Below u.heap.size u w') := Lib.hid (fun u hu => by rw [hE]; exact mCheck_any ms[k].1 ms[k].2.1 ms[k].2.2 u hu)
      have HD := Lib.hid (And.intro d0 (And.intro d1 d2))
      clear hcon hc eg h1 h2 hm d0 d1 d2 hE
      go_enter Tryz.func71, Tryz.ntmps71
      go_wp2_with (go_at_call 119; refine HC.out.mono ?_; rintro e w1 ⟨rfl, q1⟩; refine Hid.out ?_)
      refine Lib.hid ?_
      obtain ⟨d0, d1, d2⟩ := HD.out
      rw [← q1.cell (p := ⟨mb, mo + k * 3, none⟩) hmb] at d0
      rw [← q1.cell (p := ⟨mb, mo + k * 3 + 1, none⟩) hmb] at d1
      rw [← q1.cell (p := ⟨mb, mo + k * 3 + 2, none⟩) hmb] at d2
      have HK1 := Lib.hid (HK.out w1 (htab.on q1 htl))
      generalize ms[k].1 = n at *
      generalize ms[k].2.1 = o at *
      generalize ms[k].2.2 = v at *
      clear HK HD HC
      go_wp2_with (go_at_call 121; refine HK1.out.mono ?_; rintro e w2 ⟨rfl, q2⟩)
      go_ret
      exact ⟨rfl, q1.trans (q2.mono q1.size)⟩

end Go.Proofs.YtcngifkoopcmeaaGreatDoor
