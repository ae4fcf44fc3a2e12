/-
  What slices.Clone and slices.SortFunc do at pairs; the function value that compares two pairs by their names.
-/
import Derived.Test.YtpjmfembpckohaaGreatDoorLab3

namespace Go.Proofs.YtpjmfembpckohaaGreatDoor
open Go.RowKit

/- Clone -/
set_option maxHeartbeats 1000000 in
theorem Clone_zero (q : Addr) (c : Nat) (w : World) :
    Calls Tryz.prog 43 #[.slice (some q) 0 c] w fun e w' => ∃ v, e = .returned v ∧ OwnP w' w.heap.size v [] ∧ Below w.heap.size w w' := by
  obtain ⟨i0, hi, hz0, hz1, hz2⟩ := info_parts infoPair
  have q22 : ∀ (w : World) (a : Option Addr) (n c n' c' : Nat), (binOp .eql 22 (.slice a n c) (.slice none n' c')).run Tryz.prog w = .ok (.bool a.isNone) w := fun w a n c n' c' => Lib.run_eql_slice_nil w _ _ a n c n' c' Tryz.underlying22
  go_enter Tryz.func43, Tryz.ntmps43
  go_wp2_with (at_builtin; refine wpList_append_own _ rfl _ _ 22 rfl w.heap.size 37 i0 _ 2 32 Tryz.underlying22 hi hz0 hz1 hz2 rfl (by decide) _ _ _ rfl (World.ownsRow_made w #[] 0 (Nat.le_refl _) (Nat.zero_le _) (by simp)) q 0 c [] rfl rfl (fun j u hj => by simp at hj) (fun u hu => by simp at hu) (by unfold maxLen; omega) (by omega) (by simp) ?_)
  intro v' w1 hown hgrow hnil
  go_wp2
  go_ret
  refine ⟨v', rfl, hown, ?_⟩
  exact ((Below.refl w.heap.size w).alloc (Nat.le_refl _) _).grown hgrow (by simp) (fun j hj => by simp [Value.ownBlock] at hj; omega)

theorem Clone_any (a : Option Addr) (c : Nat) (ps : List Pr) (w : World) (h : PairsAt w a ps) (hn : ps.length ≤ 4398046511103) :
    Calls Tryz.prog 43 #[.slice a ps.length c] w fun e w' => ∃ v, e = .returned v ∧ OwnP w' w.heap.size v ps ∧ Below w.heap.size w w' := by
  cases a with
  | none =>
    have h0 : ps.length = 0 := by
      by_cases hp : 0 < ps.length
      · obtain ⟨b, o, he, -⟩ := h hp
        cases he
      · omega
    obtain rfl := List.eq_nil_of_length_eq_zero h0
    exact (AnyE.slices_Clone_nil Tryz.lClone 0 c w).mono fun e w' ⟨he, hw⟩ => ⟨_, he, World.ownsRow_nil w' w.heap.size 37 2, by rw [hw]; exact Below.refl _ _⟩
  | some q =>
    by_cases hp : 0 < ps.length
    · obtain ⟨b, o, he, hc⟩ := h hp
      obtain rfl := Option.some.inj he
      obtain ⟨i0, hi, hz0, hz1, hz2⟩ := info_parts infoPair
      refine (AnyE.slices_Clone Tryz.lClone i0 _ 2 32 hi hz0 hz1 hz2 rfl (by decide) Tryz.sizeOf37 b o ps.length c (cellsP ps) w (cellsP_len ps) (by unfold maxLen; omega) (by omega) (PairsAt.cells hc) (cellsP_one ps)).mono ?_
      rintro e w' ⟨v, he, hown, -, hb⟩
      exact ⟨v, he, hown, hb⟩
    · obtain rfl := List.eq_nil_of_length_eq_zero (show ps.length = 0 by omega)
      exact Clone_zero q c w

/- The comparison -/
def cmpP (x y : Pr) : Int := Lib.compareBytes x.1.data.toList y.1.data.toList

theorem cmp_lt : ∀ (x y : List UInt8), Lib.compareBytes x y < 0 ↔ x < y
  | [], [] => by simp [Lib.compareBytes]
  | [], _ :: _ => by simp [Lib.compareBytes]
  | _ :: _, [] => by simp [Lib.compareBytes]
  | a :: x, b :: y => by
    rw [Lib.compareBytes, List.cons_lt_cons_iff]
    by_cases h1 : a < b
    · simp [h1]
    · rw [if_neg h1]
      by_cases h2 : b < a
      · rw [if_pos h2]
        have : ¬ a = b := fun e => UInt8.lt_irrefl a (e ▸ h2)
        simp [h1, this]
      · rw [if_neg h2, cmp_lt x y]
        have : a = b := UInt8.le_antisymm (UInt8.not_lt.1 h2) (UInt8.not_lt.1 h1)
        simp [this]

theorem ltP (x y : Pr) : ltOf cmpP x y = decide (nm x < nm y) := by
  unfold ltOf cmpP nm
  rw [decide_eq_decide, cmp_lt, ByteArray.toList_eq, ByteArray.toList_eq]

theorem swoP : Sort.SWO (ltOf cmpP) where
  irrefl x := by rw [ltP]; exact decide_eq_false (nm_irrefl _)
  trans x y z h1 h2 := by rw [ltP] at *; simp only [decide_eq_true_eq] at *; exact nm_trans h1 h2
  ntrans x y z h1 h2 := by
    rw [ltP] at *
    simp only [decide_eq_false_iff_not] at *
    intro h
    by_cases hxy : nm y < nm x
    · exact h2 (nm_trans hxy h)
    · rw [nm_tri h1 hxy] at h
      exact h2 h

set_option maxHeartbeats 1000000 in
theorem closure_any (x y : Pr) (W : World) : Calls Tryz.prog 45 #[.agg #[.string x.1, .string x.2], .agg #[.string y.1, .string y.2]] W fun e w' => e = .returned (.int .i64 (cmpP x y)) ∧ ∃ q os', w' = Sort.grow (W.drewN q) os' := by
  have hcon := fun W' => Any.strings_Compare Tryz.lCompare x.1 y.1 W'
  change ∀ W', Calls Tryz.prog 46 _ _ _ at hcon
  unfold cmpP
  generalize Lib.compareBytes x.1.data.toList y.1.data.toList = r at hcon ⊢
  go_enter Tryz.func45, Tryz.ntmps45
  go_wp2_with (go_at_call 46; refine (hcon _).mono ?_; rintro e w' ⟨rfl, rfl⟩)
  go_ret
  exact ⟨rfl, 0, _, by rw [Sort.alloc_eq_grow, Sort.alloc_eq_grow, Sort.grow_grow]; rfl⟩

theorem cmpLays (blk off size : Nat) (w : World) : CmpLays Tryz.prog 45 #[] encP 2 cmpP blk off size w :=
  fun _ _ _ _ x y => closure_any x y _

theorem hlen2 (n : Nat) (W : World) (h : n ≤ 12) : Calls Tryz.prog 55 #[.int .u64 n] W fun e w' => (∃ l : Int, e = .returned (.int .i64 l)) ∧ w' = W :=
  (Any.bits_Len Tryz.lBitsLen n W (by omega) (by omega)).mono fun _ _ ⟨he, hw⟩ => ⟨⟨_, he⟩, hw⟩

/-- Pairs in a row that may be written to, in a block from B on. -/
def HeldP (w : World) (B : Nat) (a : Option Addr) (ps : List Pr) : Prop :=
  0 < ps.length → ∃ g, a = some ⟨g, 0, none⟩ ∧ B ≤ g ∧ g < w.heap.size ∧ Sort.HoldsK encP 2 w g 0 ps.toArray

theorem HeldP.at {w : World} {B : Nat} {a : Option Addr} {ps : List Pr} (h : HeldP w B a ps) : PairsAt w a ps := fun hn => by
  obtain ⟨g, rfl, -, -, hH⟩ := h hn
  refine ⟨g, 0, rfl, fun i hi => ?_⟩
  have e0 := (hH.cell (i := i) (c := 0) (by simpa using hi) (by omega)).1
  have e1 := (hH.cell (i := i) (c := 1) (by simpa using hi) (by omega)).1
  rw [getElem!_pos ps.toArray i (by simpa using hi)] at e0 e1
  exact ⟨e0, e1⟩

theorem below_sortWorld {B : Nat} {w : World} {g n : Nat} {d : Array Pr} {os : Array Obj} (hg : B ≤ g) (hB : B ≤ w.heap.size) : Below B w (sortWorldK encP 2 w g 0 n d os) := by
  refine ⟨rfl, rfl, rfl, size_sortWorldK_c encP 2 w g 0 n d os, fun k hk => ?_⟩
  unfold sortWorldK Sort.grow Sort.putRowK Sort.putRow Sort.mapBlock Sort.ahead
  show ((w.heap.modify g _) ++ os)[k]? = _
  rw [Array.getElem?_append_left (by simp; omega), Array.getElem?_modify, if_neg (by omega)]

theorem SortFunc_any (g c : Nat) (ps : List Pr) (B : Nat) (w : World) (h : OwnP w B (.slice (some ⟨g, 0, none⟩) ps.length c) ps) (hg : B ≤ g) (hgl : g < w.heap.size) (h12 : ps.length ≤ 12) :
    Calls Tryz.prog 44 #[.slice (some ⟨g, 0, none⟩) ps.length c, .func (.func 45) #[] #[]] w fun e w' => e = .returned (.tuple #[]) ∧ ∃ qs : List Pr, qs.Perm ps ∧ (qs.Pairwise fun a b => ¬ nm b < nm a) ∧ Sort.HoldsK encP 2 w' g 0 qs.toArray ∧ Below B w w' := by
  have eg : ∀ args w, (callFunc 45 args).run Tryz.prog w = .ok (.enter 45 args) w := enters_of Tryz.func45 (by kernel_rfl) rfl
  have hH := ownP_holds h
  have hcon := AnyQ.slices_SortFunc_small_sorted Tryz.lSortFunc 2 Tryz.isAgg37 Tryz.sizeOf37 encP (fun _ => rfl) (fun x v hv => by simp [encP] at hv; rcases hv with rfl | rfl <;> rfl) cmpP 45 #[] swoP g 0 c ps.toArray w eg (cmpLays g 0 _ w) hH hgl (by simpa using h12) hlen2
  change Calls Tryz.prog 44 _ _ _ at hcon
  rw [List.size_toArray] at hcon
  refine hcon.mono ?_
  rintro e w' ⟨he, d', n, os, hp, hs, rfl⟩
  obtain ⟨hp0, -, hp2⟩ := hp
  have hp1 : d'.size = ps.length := by simpa using hp0
  refine ⟨he, d'.toList, ?_, ?_, ?_, below_sortWorld hg (by omega)⟩
  · have e1 : d'.extract 0 ps.length = d' := by rw [← hp1]; exact Array.extract_size
    have e2 : ps.toArray.extract 0 ps.length = ps.toArray := by simp
    rw [e1, e2] at hp2
    simpa using hp2
  · rw [List.pairwise_iff_getElem]
    intro i j hi hj hij
    simp only [Array.length_toList] at hi hj
    have := hs i j (Nat.zero_le _) hij (by omega)
    rw [getElem!_pos d' i hi, getElem!_pos d' j hj, ltP] at this
    simpa using this
  · exact holdsK_sortWorldK_c encP 2 w g 0 ps.toArray d' n os hH hgl (by rw [hp1]; simp)

end Go.Proofs.YtpjmfembpckohaaGreatDoor
