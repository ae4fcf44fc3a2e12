/-
  The reference's sets. The reference's atoms that are sets. The reference's atoms, put together.
-/
import Derived.Test.YtcngifkoopcmeaaGreatDoorK31
import Derived.Test.YtcngifkoopcmeaaGreatDoorK32
import Derived.Test.YtcngifkoopcmeaaGreatDoorK30
namespace Go.Proofs.YtcngifkoopcmeaaGreatDoor
open Go.RowKit


set_option maxRecDepth 20000 in
set_option maxHeartbeats 8000000 in
theorem set_empty (s : ByteArray) (w : World) (hx : s.size = 0) : Calls Tryz.prog 207 #[.string s] w fun e w' => SE s.data.toList e ∧ Below w.heap.size w w' := by
  have kz := zero_tree
  have hx3 : ¬ (0 : Int) < (s.size : Int) := by omega
  have HF : Hid (pSet s.data.toList = none) := Lib.hid (by rw [bytes_nil hx]; unfold pSet; rw [if_neg (by simp)]; exact items_none rfl)
  go_enter Tryz.func207, Tryz.ntmps207
  go_wp2_with fail
  have t1 := (TreeBlk.new w (noT 0)).alloc (.cells (treeC (noT 0)) 207)
  have t2 := TreeBlk.new' (w.alloc (.cells (treeC (noT 0)) 207)) (noT 0) (w.heap.size + 1) (by simp)
  have hb0 := ((Below.refl w.heap.size w).alloc (Nat.le_refl _) (.cells (treeC (noT 0)) 207)).alloc (by simp) (.cells (treeC (noT 0)) 207)
  generalize (w.alloc (.cells (treeC (noT 0)) 207)).alloc (.cells (treeC (noT 0)) 207) = W at *
  clear kz
  go_loopw [0, 7] (fun sv nv wz => sv = .string s ∧ nv = .int .i64 0 ∧ wz = W) (fun _ _ _ => 0)
  case atStart => exact ⟨rfl, rfl, rfl⟩
  case round =>
    obtain ⟨rfl, rfl, hwz⟩ := hrel
    subst hwz
    have hne := isEmpty_yes hx
    go_wp2_with (refine stop_load _ rfl ?_)
    refine Lib.hid ?_
    refine wp_load_tree _ rfl _ rfl (show TreeBlk _ _ (oneT noneB) from t2) ?_
    have kn := treeC_size (oneT (noneB))
    have ks := t1.storeCells (oneT (noneB))
    have t3 := t1.row (oneT (noneB))
    have hb3 := below_setRow hb0 w.heap.size (Nat.le_refl _) (treeC (oneT (noneB)))
    generalize World.setRow _ _ _ = W3 at *
    go_wp2
    exact bodyPost_ret (results_tree3 rfl _ _ _ rfl t3) rfl ⟨.inl ⟨HF.out, _, rfl⟩, hb3⟩

theorem set_ref (s : ByteArray) (w : World) (hs : s.size ≤ 9223372036854775807) : Calls Tryz.prog 207 #[.string s] w fun e w' => SE s.data.toList e ∧ Below w.heap.size w w' := by
  rcases Nat.eq_zero_or_pos s.size with h | h
  · exact set_empty s w h
  · by_cases hh : s[0] = 94
    · have e : (s.extract 1 s.size).data.toList = s.data.toList.drop 1 := extract_list s 1
      have hp : pSet s.data.toList = match pItems s.data.toList.length noneB (s.data.toList.drop 1) with | none => none | some (T, l') => some (notB T, l') := by
        unfold pSet
        rw [if_pos (by rw [bytes_cons s h, hh]; rfl)]
        rfl
      refine set_hat s w hs h (beq_yes (n := 94) (by decide) hh) (pItems s.data.toList.length noneB (s.data.toList.drop 1)) (Lib.hid ⟨s.data.toList.length, ?_, ?_⟩) (Lib.hid fun hr => ?_) (Lib.hid fun T x hr => ?_)
      · rw [e, List.length_drop]; have : s.data.toList.length = s.size := by simp
        omega
      · rw [if_pos rfl, e]
      · rw [hp, hr]
      · rw [hp, hr]
    · have hp : pSet s.data.toList = pItems (s.data.toList.length + 1) noneB s.data.toList := by
        unfold pSet
        rw [if_neg (by rw [bytes_cons s h]; simpa using hh)]
      exact set_plain s w hs h (beq_no (n := 94) (by decide) hh) (pSet s.data.toList) (Lib.hid ⟨s.data.toList.length + 1, by omega, by rw [if_pos rfl, hp]⟩) (Lib.hid id) (Lib.hid fun T x hr => hr)

end Go.Proofs.YtcngifkoopcmeaaGreatDoor
namespace Go.Proofs.YtcngifkoopcmeaaGreatDoor
open Go.RowKit

theorem eset_no (s : ByteArray) (w : World) (hs : s.size ≤ 9223372036854775807) (h : pSet s.data.toList = none) : Calls Tryz.prog 207 #[.string s] w fun e w' => (∃ t, e = .returned (.tuple #[.agg (treeC t), .string ⟨#[]⟩, .bool false])) ∧ Below w.heap.size w w' :=
  (set_ref s w hs).mono fun e w' ⟨hE, hb⟩ => by
    rcases hE with ⟨-, h2⟩ | ⟨T, s', h1, -⟩
    · exact ⟨h2, hb⟩
    · rw [h] at h1; cases h1
theorem eset_yes (s : ByteArray) (w : World) (hs : s.size ≤ 9223372036854775807) (T : BSet) (s2 : ByteArray) (h : pSet s.data.toList = some (T, s2.data.toList)) : Calls Tryz.prog 207 #[.string s] w fun e w' => e = .returned (.tuple #[.agg (treeC (oneT T)), .string s2, .bool true]) ∧ Below w.heap.size w w' :=
  (set_ref s w hs).mono fun e w' ⟨hE, hb⟩ => by
    rcases hE with ⟨h1, -⟩ | ⟨T', s', h1, h2⟩
    · rw [h] at h1; cases h1
    · rw [h] at h1
      injection h1 with h1
      injection h1 with e1 e2
      obtain rfl : s2 = s' := by
        cases s2; cases s'
        congr 1
        exact Array.toList_inj.1 e2
      subst e1
      exact ⟨h2, hb⟩

set_option maxRecDepth 20000 in
set_option maxHeartbeats 4000000 in
theorem eatom_set_no (s : ByteArray) (w : World) (hs : s.size ≤ 9223372036854775807) (h0 : 0 < s.size) (n91 : s[0] = 91) (h : pSet (s.extract 1 s.size).data.toList = none) :
    Calls Tryz.prog 189 #[.string s] w fun e w' => (∃ t, e = .returned (.tuple #[.agg (treeC t), .string ⟨#[]⟩, .bool false])) ∧ Below w.heap.size w w' := by
  have HC := Lib.hid (fun u => eset_no (s.extract 1 s.size) u (by rw [ByteArray.size_extract]; omega) h)
  have kz := zero_tree
  have hp : (0 : Int) < (s.size : Int) := by omega
  have hp1 : (1 : Int) ≤ (s.size : Int) := by omega
  have n40 : s[0] ≠ 40 := by rw [n91]; decide
  have q40 : ((s[0].toNat : Int) == 40) = false := beq_no (n := 40) (by decide) n40
  have q91 : ((s[0].toNat : Int) == 91) = true := beq_yes (n := 91) (by decide) n91
  clear n40 n91
  have kn := treeC_size
  have tA := TreeBlk.new w (noT 0)
  have hbA := (Below.refl w.heap.size w).alloc (Nat.le_refl _) (.cells (treeC (noT 0)) 207)
  go_enter Tryz.func189, Tryz.ntmps189
  go_wp2_with (go_at_call 207; refine (HC.out _).mono ?_; rintro e w1 ⟨⟨t, rfl⟩, q1⟩; refine Hid.out ?_)
  refine Lib.hid ?_
  have t1 := tA.below q1
  have hb1 := hbA.trans (q1.mono hbA.size)
  have ks := t1.storeCells (t)
  have t3 := t1.row (t)
  have hb3 := below_setRow hb1 w.heap.size (Nat.le_refl _) (treeC (t))
  generalize World.setRow _ _ _ = W3 at *
  clear t1 hb1 q1 tA hbA
  go_wp2
  exact bodyPost_ret (results_tree3 rfl _ _ _ rfl t3) rfl ⟨⟨_, rfl⟩, hb3⟩

set_option maxRecDepth 20000 in
set_option maxHeartbeats 4000000 in
theorem eatom_set_ok (s s2 : ByteArray) (T : BSet) (w : World) (hs : s.size ≤ 9223372036854775807) (h0 : 0 < s.size) (n91 : s[0] = 91) (h : pSet (s.extract 1 s.size).data.toList = some (T, s2.data.toList)) :
    Calls Tryz.prog 189 #[.string s] w fun e w' => e = .returned (.tuple #[.agg (treeC (oneT T)), .string s2, .bool true]) ∧ Below w.heap.size w w' := by
  have HC := Lib.hid (fun u => eset_yes (s.extract 1 s.size) u (by rw [ByteArray.size_extract]; omega) T s2 h)
  have kz := zero_tree
  have hp : (0 : Int) < (s.size : Int) := by omega
  have hp1 : (1 : Int) ≤ (s.size : Int) := by omega
  have n40 : s[0] ≠ 40 := by rw [n91]; decide
  have q40 : ((s[0].toNat : Int) == 40) = false := beq_no (n := 40) (by decide) n40
  have q91 : ((s[0].toNat : Int) == 91) = true := beq_yes (n := 91) (by decide) n91
  clear n40 n91
  have kn := treeC_size
  have tA := TreeBlk.new w (noT 0)
  have hbA := (Below.refl w.heap.size w).alloc (Nat.le_refl _) (.cells (treeC (noT 0)) 207)
  go_enter Tryz.func189, Tryz.ntmps189
  go_wp2_with (go_at_call 207; refine (HC.out _).mono ?_; rintro e w1 ⟨rfl, q1⟩; refine Hid.out ?_)
  refine Lib.hid ?_
  have t1 := tA.below q1
  have hb1 := hbA.trans (q1.mono hbA.size)
  have ks := t1.storeCells (oneT T)
  have t3 := t1.row (oneT T)
  have hb3 := below_setRow hb1 w.heap.size (Nat.le_refl _) (treeC (oneT T))
  generalize World.setRow _ _ _ = W3 at *
  clear t1 hb1 q1 tA hbA
  go_wp2
  exact bodyPost_ret (results_tree3 rfl _ _ _ rfl t3) rfl ⟨rfl, hb3⟩

/-- What an atom is told as: none. -/
def AtNo (s : ByteArray) (w : World) : Prop := Calls Tryz.prog 189 #[.string s] w fun e w' => (∃ t, e = .returned (.tuple #[.agg (treeC t), .string ⟨#[]⟩, .bool false])) ∧ Below w.heap.size w w'
/-- .. one. -/
def AtOk (s s2 : ByteArray) (A : Lang) (w : World) : Prop := Calls Tryz.prog 189 #[.string s] w fun e w' => (∃ t, e = .returned (.tuple #[.agg (treeC t), .string s2, .bool true]) ∧ ∃ d, Den d w' (fun b => w.heap.size ≤ b ∧ b < w'.heap.size) t A) ∧ Below w.heap.size w w'
theorem AtOk.of {s s2 : ByteArray} {T : BSet} {w : World} (h : Calls Tryz.prog 189 #[.string s] w fun e w' => e = .returned (.tuple #[.agg (treeC (oneT T)), .string s2, .bool true]) ∧ Below w.heap.size w w') : AtOk s s2 (setL T) w :=
  h.mono fun _ w' ⟨h1, h2⟩ => ⟨⟨_, h1, 1, Den.set w' _ T⟩, h2⟩

end Go.Proofs.YtcngifkoopcmeaaGreatDoor
namespace Go.Proofs.YtcngifkoopcmeaaGreatDoor
open Go.RowKit

theorem ba_ext {a b : ByteArray} (h : a.data.toList = b.data.toList) : a = b := by
  cases a; cases b
  congr 1
  exact Array.toList_inj.1 h
/-- How a pattern within is read. -/
def ParIH (s1 : ByteArray) : Prop := (pL noL epsL s1.data.toList = none → ParNo s1) ∧ ∀ (A : Lang) (s2 : ByteArray), pL noL epsL s1.data.toList = some (A, s2.data.toList) → ParOk s1 s2 A

theorem eatom_ref (s : ByteArray) (w : World) (hs : s.size ≤ 9223372036854775807) (h0 : 0 < s.size) (IH : ParIH (s.extract 1 s.size)) (hl : ∀ l A l', pL noL epsL l = some (A, l') → l'.length ≤ l.length) :
    (pAtom (pL noL epsL) s.data.toList = none → AtNo s w) ∧ ∀ (A : Lang) (s2 : ByteArray), pAtom (pL noL epsL) s.data.toList = some (A, s2.data.toList) → AtOk s s2 A w := by
  have hx := extract_list s 1
  have hxl : (s.extract 1 s.size).data.toList.length + 1 = s.size := by rw [hx, List.length_drop]; simp; omega
  rw [bytes_cons s h0]
  by_cases n40 : s[0] = 40
  · cases hq : pL noL epsL (s.extract 1 s.size).data.toList with
    | none =>
      have e : pAtom (pL noL epsL) (s[0] :: (s.extract 1 s.size).data.toList) = none := by simp only [pAtom]; rw [if_pos n40, hq]
      rw [e]
      exact ⟨fun _ => eatom_par_no s w hs h0 n40 (IH.1 hq), fun A s2 h => by cases h⟩
    | some p =>
      obtain ⟨A, l2⟩ := p
      have HC := IH.2 A ⟨l2.toArray⟩ (by rw [hq])
      have hll := hl _ _ _ hq
      have e : pAtom (pL noL epsL) (s[0] :: (s.extract 1 s.size).data.toList) = if l2.head? = some 41 then some (A, l2.drop 1) else none := by simp only [pAtom]; rw [if_pos n40, hq]
      rw [e]
      cases l2 with
      | nil => exact ⟨fun _ => eatom_par_end s _ A w hs h0 n40 HC rfl, fun A s2 h => by cases h⟩
      | cons d y =>
        have h2 : 0 < (⟨(d :: y).toArray⟩ : ByteArray).size := by show 0 < (d :: y).toArray.size; simp
        have h2s : (⟨(d :: y).toArray⟩ : ByteArray).size ≤ 9223372036854775807 := by show (d :: y).toArray.size ≤ _; simp at hll ⊢; omega
        by_cases hd : d = 41
        · subst hd
          refine ⟨fun h => (by cases h), fun A' s2 h => ?_⟩
          rw [if_pos (show (41 :: y : List UInt8).head? = some 41 from rfl)] at h
          injection h with h
          injection h with e1 e2
          subst e1
          have := eatom_par_ok s _ A w hs h0 n40 HC h2 h2s rfl
          rw [show s2 = (⟨(41 :: y).toArray⟩ : ByteArray).extract 1 (⟨(41 :: y).toArray⟩ : ByteArray).size from ba_ext (by rw [extract_list, ← e2])]
          exact this
        · rw [if_neg (by simpa using hd)]
          exact ⟨fun _ => eatom_par_bad s _ A w hs h0 n40 HC h2 hd, fun A s2 h => by cases h⟩
  by_cases n91 : s[0] = 91
  · cases hq : pSet (s.extract 1 s.size).data.toList with
    | none =>
      have e : pAtom (pL noL epsL) (s[0] :: (s.extract 1 s.size).data.toList) = none := by simp only [pAtom]; rw [if_neg n40, if_pos n91, hq]
      rw [e]
      exact ⟨fun _ => eatom_set_no s w hs h0 n91 hq, fun A s2 h => by cases h⟩
    | some p =>
      obtain ⟨T, l2⟩ := p
      have e : pAtom (pL noL epsL) (s[0] :: (s.extract 1 s.size).data.toList) = some (setL T, l2) := by simp only [pAtom]; rw [if_neg n40, if_pos n91, hq]
      rw [e]
      refine ⟨fun h => (by cases h), fun A s2 h => ?_⟩
      injection h with h
      injection h with e1 e2
      subst e1 e2
      exact .of (eatom_set_ok s s2 T w hs h0 n91 hq)
  by_cases n46 : s[0] = 46
  · have e : pAtom (pL noL epsL) (s[0] :: (s.extract 1 s.size).data.toList) = some (setL (notB noneB), (s.extract 1 s.size).data.toList) := by simp only [pAtom]; rw [if_neg n40, if_neg n91, if_pos n46]
    rw [e]
    refine ⟨fun h => (by cases h), fun A s2 h => ?_⟩
    injection h with h
    injection h with e1 e2
    subst e1
    obtain rfl := ba_ext e2
    exact .of (eatom_dot s w hs h0 n46)
  by_cases n92 : s[0] = 92
  · by_cases h1 : s.size = 1
    · have e : pAtom (pL noL epsL) (s[0] :: (s.extract 1 s.size).data.toList) = none := by
        rw [List.eq_nil_of_length_eq_zero (l := (s.extract 1 s.size).data.toList) (by omega)]
        simp only [pAtom]; rw [if_neg n40, if_neg n91, if_neg n46, if_pos n92]
      rw [e]
      exact ⟨fun _ => eatom_esc_no s w h1 n92, fun A s2 h => by cases h⟩
    · have h2 : 1 < s.size := by omega
      have e : pAtom (pL noL epsL) (s[0] :: (s.extract 1 s.size).data.toList) = some (setL (addB noneB s[1] s[1]), (s.extract 2 s.size).data.toList) := by
        rw [← bytes_cons s h0, bytes_cons2 s h2]
        simp only [pAtom]; rw [if_neg n40, if_neg n91, if_neg n46, if_pos n92]
      rw [e]
      refine ⟨fun h => (by cases h), fun A s2 h => ?_⟩
      injection h with h
      injection h with e1 e2
      subst e1
      obtain rfl := ba_ext e2
      exact .of (eatom_esc s w hs h2 n92)
  cases hc : isSpec s[0] with
  | true =>
    have e : pAtom (pL noL epsL) (s[0] :: (s.extract 1 s.size).data.toList) = none := by simp only [pAtom]; rw [if_neg n40, if_neg n91, if_neg n46, if_neg n92, if_pos hc]
    rw [e]
    exact ⟨fun _ => eatom_spec_no s w hs h0 hc n40 n91 n46 n92, fun A s2 h => by cases h⟩
  | false =>
    have e : pAtom (pL noL epsL) (s[0] :: (s.extract 1 s.size).data.toList) = some (setL (addB noneB s[0] s[0]), (s.extract 1 s.size).data.toList) := by simp only [pAtom]; rw [if_neg n40, if_neg n91, if_neg n46, if_neg n92, if_neg (by rw [hc]; decide)]
    rw [e]
    refine ⟨fun h => (by cases h), fun A s2 h => ?_⟩
    injection h with h
    injection h with e1 e2
    subst e1
    obtain rfl := ba_ext e2
    exact .of (eatom_plain s w hs h0 hc)

end Go.Proofs.YtcngifkoopcmeaaGreatDoor
