/-
  The reference's lists of places: same, union.
-/
import Derived.Test.YtlcbkhmaemoahaaDoorXTree3
import Derived.OwnWalk
namespace Go.Proofs.YtlcbkhmaemoahaaDoor
open Go.RowKit

/-- Bools that can be read. -/
def BoolsAt (w : World) (a : Option Addr) (l : List Bool) : Prop := ∀ i (hi : i < l.length), ∃ g, a = some ⟨g, 0, none⟩ ∧ w.cell? ⟨g, i, none⟩ = some (.bool l[i])
theorem BoolsAt.below {w w' : World} {a : Option Addr} {l : List Bool} (h : BoolsAt w a l) (hb : Below w.heap.size w w') : BoolsAt w' a l := fun i hi => by
  obtain ⟨g, e, hc⟩ := h i hi
  exact ⟨g, e, by rw [hb.cell (p := ⟨g, i, none⟩) (World.block_lt_of_cell? w _ hc)]; exact hc⟩
theorem take_eq_snoc {la lb : List Bool} {k : Nat} (ha : k < la.length) (hb : k < lb.length) (h : la.take k = lb.take k) (e : la[k] = lb[k]) : la.take (k + 1) = lb.take (k + 1) := by
  rw [List.take_succ_eq_append_getElem ha, List.take_succ_eq_append_getElem hb, h, e]

set_option maxHeartbeats 1000000 in
theorem same_any (a b : Option Addr) (ca cb : Nat) (la lb : List Bool) (w : World) (ha : BoolsAt w a la) (hb : BoolsAt w b lb) (hl : lb.length = la.length) (hm : la.length ≤ 9223372036854775807) :
    Calls Tryd.prog 69 #[.slice a la.length ca, .slice b la.length cb] w fun e w' => e = .returned (.bool (decide (la = lb))) ∧ Below w.heap.size w w' := by
  go_enter Tryd.func69, Tryd.ntmps69
  go_wp2
  go_loopw [5] (fun i wr => ∃ k : Nat, k ≤ la.length ∧ i = .int .i64 k ∧ Hid (la.take k = lb.take k) ∧ Below w.heap.size w wr) (fun i _ => la.length - (intOf i).toNat)
  case atStart => exact ⟨0, Nat.zero_le _, rfl, Lib.hid rfl, Below.refl _ _⟩
  case round =>
    obtain ⟨k, hk, rfl, HT, hbw⟩ := hrel
    by_cases hlt : k < la.length
    · have hki : (k : Int) < (la.length : Int) := by omega
      obtain ⟨g, rfl, c1⟩ := (ha.below hbw) k hlt
      obtain ⟨g2, rfl, c2⟩ := (hb.below hbw) k (by omega)
      have hd : ∀ n, Below w.heap.size w (wr.drewN n) := fun n => hbw.trans ((below_drawn wr n).mono hbw.size)
      by_cases he : la[k] = lb[k]
      · have HT2 := Lib.hid (take_eq_snoc hlt (by omega) HT.out he)
        rw [← he] at c2
        generalize la[k] = x at *
        clear he
        cases x
        all_goals
          go_wp2
          go_quiet (fail)
          go_wp2
          exact ⟨⟨k + 1, by omega, by go_num, HT2, hd _⟩, by simp [intOf]; omega⟩
      · have HE : Hid (decide (la = lb) = false) := Lib.hid (decide_eq_false fun e => he (by simp [e]))
        have hx : (la[k] = true ∧ lb[k] = false) ∨ (la[k] = false ∧ lb[k] = true) := by
          cases h1 : la[k] <;> cases h2 : lb[k]
          · exact absurd (h1.trans h2.symm) he
          · exact .inr ⟨rfl, rfl⟩
          · exact .inl ⟨rfl, rfl⟩
          · exact absurd (h1.trans h2.symm) he
        clear he
        rcases hx with ⟨h1, h2⟩ | ⟨h1, h2⟩
        all_goals
          rw [h1] at c1
          rw [h2] at c2
          clear h1 h2
          go_wp2
          go_quiet (fail)
          go_wp2
          go_ret
          exact ⟨by rw [HE.out]; rfl, hd _⟩
    · have hki : ¬ (k : Int) < (la.length : Int) := by omega
      have HE : Hid (decide (la = lb) = true) := Lib.hid <| by
        obtain rfl : k = la.length := by omega
        have := HT.out
        rw [List.take_length, ← hl, List.take_length] at this
        exact decide_eq_true this
      go_wp2
      go_ret
      exact ⟨by rw [HE.out]; rfl, hbw⟩

/-- Bools of the call's own. -/
def OwnBo (w : World) (B g n : Nat) (l : List Bool) : Prop := w.ownsRow B 4 1 (.slice (some ⟨g, 0, none⟩) n n) n (l.map Value.bool)
theorem infoBool : (Tryd.prog.info? 4).map (fun i => (i.zero, i.size, i.bytes)) = some (some (.bool false), 1, 1) := by kernel_rfl
theorem OwnBo.reads {w : World} {B g n : Nat} {l : List Bool} (h : OwnBo w B g n l) (hn : l.length = n) : BoolsAt w (some ⟨g, 0, none⟩) l := fun i hi => ⟨g, rfl, by rw [World.ownsRow.cellAt h _ (by omega)]; simp [hi]⟩
theorem OwnBo.set {w : World} {B g n : Nat} {l : List Bool} (h : OwnBo w B g n l) (j : Nat) (x : Bool) : OwnBo (w.setCell ⟨g, j, none⟩ (.bool x)) B g n (l.set j x) := by
  unfold OwnBo
  rw [List.map_set]
  exact (World.ownsRow.stored h j (.bool x)).1

def orL (la lb : List Bool) (k : Nat) : List Bool := (List.zipWith (· || ·) la lb).take k ++ List.replicate (la.length - k) false
theorem orL_len {la lb : List Bool} (hl : lb.length = la.length) {k : Nat} (hk : k ≤ la.length) : (orL la lb k).length = la.length := by
  simp [orL, hl]; omega
theorem orL_set {la lb : List Bool} (hl : lb.length = la.length) {k : Nat} (hk : k < la.length) : (orL la lb k).set k (la[k] || lb[k]'(by omega)) = orL la lb (k + 1) := by
  have hz : k < (List.zipWith (· || ·) la lb).length := by simp [hl]; omega
  have e1 : ((List.zipWith (· || ·) la lb).take k).length = k := by rw [List.length_take]; omega
  unfold orL
  rw [List.set_append, if_neg (by omega), e1, Nat.sub_self, List.take_succ_eq_append_getElem hz, List.append_assoc]
  congr 1
  rw [show la.length - k = (la.length - (k + 1)) + 1 by omega, List.replicate_succ, List.set_cons_zero]
  simp
theorem orL_end {la lb : List Bool} (hl : lb.length = la.length) : orL la lb la.length = List.zipWith (· || ·) la lb := by
  unfold orL
  rw [List.take_of_length_le (by simp; omega), Nat.sub_self]
  simp
theorem made_false (n : Nat) : (madeCells (Value.bool false).cells (n * 1)).toList = (List.replicate n false).map Value.bool := by
  refine List.ext_getElem? fun i => ?_
  rw [Nat.mul_one]
  simp only [madeCells, Value.cells, Array.toList_map, Array.toList_range, List.getElem?_map, List.getElem?_replicate]
  by_cases h : i < n
  · rw [if_pos h, List.getElem?_range h]
    simp [Nat.mod_one]
  · rw [if_neg h, List.getElem?_eq_none (by simpa using h)]
    rfl

set_option maxHeartbeats 1000000 in
theorem union_any (a b : Option Addr) (ca cb : Nat) (la lb : List Bool) (w : World) (ha : BoolsAt w a la) (hb : BoolsAt w b lb) (hl : lb.length = la.length) (hm : la.length ≤ 100000) :
    Calls Tryd.prog 68 #[.slice a la.length ca, .slice b la.length cb] w fun e w' => (∃ g, e = .returned (.slice (some ⟨g, 0, none⟩) la.length la.length) ∧ BoolsAt w' (some ⟨g, 0, none⟩) (List.zipWith (· || ·) la lb)) ∧ Below w.heap.size w w' := by
  obtain ⟨i0, hi, hi0, hi1, hi2⟩ := info_parts infoBool
  have HI := Lib.hid (And.intro hi0 (And.intro hi1 hi2))
  clear hi0 hi1 hi2
  go_enter Tryd.func68, Tryd.ntmps68
  go_wp2_with (at_make; refine Hid.out ?_)
  refine Lib.hid ?_
  refine wpList_make_full _ rfl _ _ 87 rfl w.heap.size 4 i0 (.bool false) 1 Tryd.underlying87 hi HI.out.1 HI.out.2.1 .i64 .i64 _ _ la.length rfl rfl rfl rfl (by rw [HI.out.2.2]; omega) (by unfold maxLen; omega) (Nat.le_refl _) ?_
  intro W hown hgrow
  rw [made_false] at hown
  have own0 : OwnBo W w.heap.size w.heap.size la.length (orL la lb 0) := by
    unfold OwnBo orL
    rw [List.take_zero, List.nil_append, Nat.sub_zero]
    exact hown
  have hbW : Below w.heap.size w W := (Below.refl _ _).grown hgrow (Nat.le_refl _) (by simp)
  clear hown hgrow HI hi
  go_wp2
  go_loopw [6] (fun i wr => ∃ k : Nat, k ≤ la.length ∧ i = .int .i64 k ∧ OwnBo wr w.heap.size w.heap.size la.length (orL la lb k) ∧ Below w.heap.size w wr) (fun i _ => la.length - (intOf i).toNat)
  case atStart => exact ⟨0, Nat.zero_le _, rfl, own0, hbW⟩
  case round =>
    obtain ⟨k, hk, rfl, own, hbw⟩ := hrel
    by_cases hlt : k < la.length
    · have hki : (k : Int) < (la.length : Int) := by omega
      obtain ⟨g, rfl, c1⟩ := (ha.below hbw) k hlt
      obtain ⟨g2, rfl, c2⟩ := (hb.below hbw) k (by omega)
      obtain ⟨g3, e3, c3⟩ := own.reads (orL_len hl hk) k (by rw [orL_len hl hk]; omega)
      obtain rfl : w.heap.size = g3 := by injection e3 with e3; injection e3
      have f3 := World.ownsRow.frozenAt own k
      have own2 := own.set k (la[k] || lb[k]'(by omega))
      rw [orL_set hl hlt] at own2
      have hb2 := hbw.setCell (p := ⟨w.heap.size, k, none⟩) (Nat.le_refl _) (.bool (la[k] || lb[k]'(by omega)))
      clear e3 own own0 hbW
      generalize la[k] = x at *
      generalize lb[k] = y at *
      cases x <;> cases y
      all_goals
        simp only [Bool.or_self, Bool.or_true, Bool.or_false] at own2 hb2
        go_wp2
        exact ⟨⟨k + 1, by omega, by go_num, own2, hb2⟩, by simp [intOf]; omega⟩
    · have hki : ¬ (k : Int) < (la.length : Int) := by omega
      obtain rfl : k = la.length := by omega
      have hr := own.reads (orL_len hl hk)
      rw [orL_end hl] at hr
      clear own own0 hbW
      go_wp2
      go_ret
      exact ⟨⟨_, rfl, hr⟩, hbw⟩

end Go.Proofs.YtlcbkhmaemoahaaDoor
