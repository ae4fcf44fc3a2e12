/-
  The reference's lists of places: same, union. What the reference's ends tells: the places to which a tree leads.
-/
import Derived.Test.YtcngifkoopcmeaaGreatDoorK28
import Derived.OwnWalk
import Derived.Test.YtcngifkoopcmeaaGreatDoorK34
import Derived.Deep.MidRow
namespace Go.Proofs.YtcngifkoopcmeaaGreatDoor
open Go.RowKit

/-- Bools that can be read. -/
def BoolsAt (w : World) (a : Option Addr) (l : List Bool) : Prop := ∀ i (hi : i < l.length), ∃ g, a = some ⟨g, 0, none⟩ ∧ w.cell? ⟨g, i, none⟩ = some (.bool l[i])
theorem BoolsAt.below {w w' : World} {a : Option Addr} {l : List Bool} (h : BoolsAt w a l) (hb : Below w.heap.size w w') : BoolsAt w' a l := fun i hi => by
  obtain ⟨g, e, hc⟩ := h i hi
  exact ⟨g, e, by rw [hb.cell (p := ⟨g, i, none⟩) (World.block_lt_of_cell? w _ hc)]; exact hc⟩
theorem take_eq_snoc {la lb : List Bool} {k : Nat} (ha : k < la.length) (hb : k < lb.length) (h : la.take k = lb.take k) (e : la[k] = lb[k]) : la.take (k + 1) = lb.take (k + 1) := by
  rw [List.take_succ_eq_append_getElem ha, List.take_succ_eq_append_getElem hb, h, e]

set_option maxHeartbeats 1000000 in
theorem same_any (a b : Option Addr) (ca cb : Nat) (la lb : List Bool) (w : World) (ha : BoolsAt w a la) (hb : BoolsAt w b lb) (hl : lb.length = la.length) (hm : la.length ≤ 9223372036854775807) :
    Calls Tryz.prog 211 #[.slice a la.length ca, .slice b la.length cb] w fun e w' => e = .returned (.bool (decide (la = lb))) ∧ Below w.heap.size w w' := by
  go_enter Tryz.func211, Tryz.ntmps211
  go_wp2
  go_loopw [5] (fun i wr => ∃ k : Nat, k ≤ la.length ∧ i = .int .i64 k ∧ Hid (la.take k = lb.take k) ∧ Below w.heap.size w wr) (fun i _ => la.length - (intOf i).toNat)
  case atStart => exact ⟨0, Nat.zero_le _, rfl, Lib.hid rfl, Below.refl _ _⟩
  case round =>
    obtain ⟨k, hk, rfl, HT, hbw⟩ := hrel
    by_cases hlt : k < la.length
    · have hki : (k : Int) < (la.length : Int) := by omega
      obtain ⟨g, rfl, c1⟩ := (ha.below hbw) k hlt
      obtain ⟨g2, rfl, c2⟩ := (hb.below hbw) k (by omega)
      have hd : ∀ n, Below w.heap.size w (wr.drewN n) := fun n => hbw.trans ((below_drawn wr n).mono hbw.size)
      by_cases he : la[k] = lb[k]
      · have HT2 := Lib.hid (take_eq_snoc hlt (by omega) HT.out he)
        rw [← he] at c2
        generalize la[k] = x at *
        clear he
        cases x
        all_goals
          go_wp2
          go_quiet (fail)
          go_wp2
          exact ⟨⟨k + 1, by omega, by go_num, HT2, hd _⟩, by simp [intOf]; omega⟩
      · have HE : Hid (decide (la = lb) = false) := Lib.hid (decide_eq_false fun e => he (by simp [e]))
        have hx : (la[k] = true ∧ lb[k] = false) ∨ (la[k] = false ∧ lb[k] = true) := by
          cases h1 : la[k] <;> cases h2 : lb[k]
          · exact absurd (h1.trans h2.symm) he
          · exact .inr ⟨rfl, rfl⟩
          · exact .inl ⟨rfl, rfl⟩
          · exact absurd (h1.trans h2.symm) he
        clear he
        rcases hx with ⟨h1, h2⟩ | ⟨h1, h2⟩
        all_goals
          rw [h1] at c1
          rw [h2] at c2
          clear h1 h2
          go_wp2
          go_quiet (fail)
          go_wp2
          go_ret
          exact ⟨by rw [HE.out]; rfl, hd _⟩
    · have hki : ¬ (k : Int) < (la.length : Int) := by omega
      have HE : Hid (decide (la = lb) = true) := Lib.hid <| by
        obtain rfl : k = la.length := by omega
        have := HT.out
        rw [List.take_length, ← hl, List.take_length] at this
        exact decide_eq_true this
      go_wp2
      go_ret
      exact ⟨by rw [HE.out]; rfl, hbw⟩

/-- Bools of the call's own. -/
def OwnBo (w : World) (B g n : Nat) (l : List Bool) : Prop := w.ownsRow B 4 1 (.slice (some ⟨g, 0, none⟩) n n) n (l.map Value.bool)
theorem infoBool : (Tryz.prog.info? 4).map (fun i => (i.zero, i.size, i.bytes)) = some (some (.bool false), 1, 1) := by kernel_rfl
theorem OwnBo.reads {w : World} {B g n : Nat} {l : List Bool} (h : OwnBo w B g n l) (hn : l.length = n) : BoolsAt w (some ⟨g, 0, none⟩) l := fun i hi => ⟨g, rfl, by rw [World.ownsRow.cellAt h _ (by omega)]; simp [hi]⟩
theorem OwnBo.set {w : World} {B g n : Nat} {l : List Bool} (h : OwnBo w B g n l) (j : Nat) (x : Bool) : OwnBo (w.setCell ⟨g, j, none⟩ (.bool x)) B g n (l.set j x) := by
  unfold OwnBo
  rw [List.map_set]
  exact (World.ownsRow.stored h j (.bool x)).1

def orL (la lb : List Bool) (k : Nat) : List Bool := (List.zipWith (· || ·) la lb).take k ++ List.replicate (la.length - k) false
theorem orL_len {la lb : List Bool} (hl : lb.length = la.length) {k : Nat} (hk : k ≤ la.length) : (orL la lb k).length = la.length := by
  simp [orL, hl]; omega
theorem orL_set {la lb : List Bool} (hl : lb.length = la.length) {k : Nat} (hk : k < la.length) : (orL la lb k).set k (la[k] || lb[k]'(by omega)) = orL la lb (k + 1) := by
  have hz : k < (List.zipWith (· || ·) la lb).length := by simp [hl]; omega
  have e1 : ((List.zipWith (· || ·) la lb).take k).length = k := by rw [List.length_take]; omega
  unfold orL
  rw [List.set_append, if_neg (by omega), e1, Nat.sub_self, List.take_succ_eq_append_getElem hz, List.append_assoc]
  congr 1
  rw [show la.length - k = (la.length - (k + 1)) + 1 by omega, List.replicate_succ, List.set_cons_zero]
  simp
theorem orL_end {la lb : List Bool} (hl : lb.length = la.length) : orL la lb la.length = List.zipWith (· || ·) la lb := by
  unfold orL
  rw [List.take_of_length_le (by simp; omega), Nat.sub_self]
  simp
theorem made_false (n : Nat) : (madeCells (Value.bool false).cells (n * 1)).toList = (List.replicate n false).map Value.bool := by
  refine List.ext_getElem? fun i => ?_
  rw [Nat.mul_one]
  simp only [madeCells, Value.cells, Array.toList_map, Array.toList_range, List.getElem?_map, List.getElem?_replicate]
  by_cases h : i < n
  · rw [if_pos h, List.getElem?_range h]
    simp [Nat.mod_one]
  · rw [if_neg h, List.getElem?_eq_none (by simpa using h)]
    rfl

set_option maxHeartbeats 1000000 in
theorem union_any (a b : Option Addr) (ca cb : Nat) (la lb : List Bool) (w : World) (ha : BoolsAt w a la) (hb : BoolsAt w b lb) (hl : lb.length = la.length) (hm : la.length ≤ 100000) :
    Calls Tryz.prog 210 #[.slice a la.length ca, .slice b la.length cb] w fun e w' => (∃ g, e = .returned (.slice (some ⟨g, 0, none⟩) la.length la.length) ∧ BoolsAt w' (some ⟨g, 0, none⟩) (List.zipWith (· || ·) la lb)) ∧ Below w.heap.size w w' := by
  obtain ⟨i0, hi, hi0, hi1, hi2⟩ := info_parts infoBool
  have HI := Lib.hid (And.intro hi0 (And.intro hi1 hi2))
  clear hi0 hi1 hi2
  go_enter Tryz.func210, Tryz.ntmps210
  go_wp2_with (at_make; refine Hid.out ?_)
  refine Lib.hid ?_
  refine wpList_make_full _ rfl _ _ 251 rfl w.heap.size 4 i0 (.bool false) 1 Tryz.underlying251 hi HI.out.1 HI.out.2.1 .i64 .i64 _ _ la.length rfl rfl rfl rfl (by rw [HI.out.2.2]; omega) (by unfold maxLen; omega) (Nat.le_refl _) ?_
  intro W hown hgrow
  rw [made_false] at hown
  have own0 : OwnBo W w.heap.size w.heap.size la.length (orL la lb 0) := by
    unfold OwnBo orL
    rw [List.take_zero, List.nil_append, Nat.sub_zero]
    exact hown
  have hbW : Below w.heap.size w W := (Below.refl _ _).grown hgrow (Nat.le_refl _) (by simp)
  clear hown hgrow HI hi
  go_wp2
  go_loopw [6] (fun i wr => ∃ k : Nat, k ≤ la.length ∧ i = .int .i64 k ∧ OwnBo wr w.heap.size w.heap.size la.length (orL la lb k) ∧ Below w.heap.size w wr) (fun i _ => la.length - (intOf i).toNat)
  case atStart => exact ⟨0, Nat.zero_le _, rfl, own0, hbW⟩
  case round =>
    obtain ⟨k, hk, rfl, own, hbw⟩ := hrel
    by_cases hlt : k < la.length
    · have hki : (k : Int) < (la.length : Int) := by omega
      obtain ⟨g, rfl, c1⟩ := (ha.below hbw) k hlt
      obtain ⟨g2, rfl, c2⟩ := (hb.below hbw) k (by omega)
      obtain ⟨g3, e3, c3⟩ := own.reads (orL_len hl hk) k (by rw [orL_len hl hk]; omega)
      obtain rfl : w.heap.size = g3 := by injection e3 with e3; injection e3
      have f3 := World.ownsRow.frozenAt own k
      have own2 := own.set k (la[k] || lb[k]'(by omega))
      rw [orL_set hl hlt] at own2
      have hb2 := hbw.setCell (p := ⟨w.heap.size, k, none⟩) (Nat.le_refl _) (.bool (la[k] || lb[k]'(by omega)))
      clear e3 own own0 hbW
      generalize la[k] = x at *
      generalize lb[k] = y at *
      cases x <;> cases y
      all_goals
        simp only [Bool.or_self, Bool.or_true, Bool.or_false] at own2 hb2
        go_wp2
        exact ⟨⟨k + 1, by omega, by go_num, own2, hb2⟩, by simp [intOf]; omega⟩
    · have hki : ¬ (k : Int) < (la.length : Int) := by omega
      obtain rfl : k = la.length := by omega
      have hr := own.reads (orL_len hl hk)
      rw [orL_end hl] at hr
      clear own own0 hbW
      go_wp2
      go_ret
      exact ⟨⟨_, rfl, hr⟩, hbw⟩


/-- From a place to a place. -/
def Leads (A : Lang) (S : List UInt8) (i j : Nat) : Prop := i ≤ j ∧ j ≤ S.length ∧ A ((S.drop i).take (j - i))
/-- A place is there. -/
def At (l : List Bool) (j : Nat) : Prop := l[j]? = some true
theorem At.lt {l : List Bool} {j : Nat} (h : At l j) : j < l.length := (List.getElem?_eq_some_iff.1 h).1
/-- The places to which those lead. -/
def Outs (A : Lang) (S : List UInt8) (la lb : List Bool) : Prop := lb.length = la.length ∧ ∀ j, At lb j ↔ ∃ i, At la i ∧ Leads A S i j

theorem Leads.congr {A B : Lang} (h : ∀ s, A s ↔ B s) (S : List UInt8) (i j : Nat) : Leads A S i j ↔ Leads B S i j := by unfold Leads; rw [h]
theorem Outs.as {A B : Lang} {S : List UInt8} {la lb : List Bool} (h : Outs A S la lb) (e : ∀ s, A s ↔ B s) : Outs B S la lb := ⟨h.1, fun j => (h.2 j).trans (by simp only [Leads.congr e])⟩
theorem seg_cut (S : List UInt8) {i j k : Nat} (h1 : i ≤ j) (h2 : j ≤ k) : (S.drop i).take (k - i) = (S.drop i).take (j - i) ++ (S.drop j).take (k - j) := by
  have e : k - i = (j - i) + (k - j) := by omega
  rw [e, List.take_add, List.drop_drop]
  congr 3
  omega
theorem leads_eps (S : List UInt8) (i j : Nat) (hi : i ≤ S.length) : Leads epsL S i j ↔ i = j := by
  unfold Leads epsL
  constructor
  · rintro ⟨h1, h2, h3⟩
    have := congrArg List.length h3
    simp at this
    omega
  · rintro rfl
    simp [hi]
theorem leads_no (S : List UInt8) (i j : Nat) : ¬ Leads noL S i j := fun h => h.2.2
theorem leads_alt (A B : Lang) (S : List UInt8) (i j : Nat) : Leads (altL A B) S i j ↔ Leads A S i j ∨ Leads B S i j := by
  unfold Leads altL
  constructor
  · rintro ⟨h1, h2, h3 | h3⟩
    · exact .inl ⟨h1, h2, h3⟩
    · exact .inr ⟨h1, h2, h3⟩
  · rintro (⟨h1, h2, h3⟩ | ⟨h1, h2, h3⟩)
    · exact ⟨h1, h2, .inl h3⟩
    · exact ⟨h1, h2, .inr h3⟩
theorem leads_cat (A B : Lang) (S : List UInt8) (i k : Nat) : Leads (catL A B) S i k ↔ ∃ j, Leads A S i j ∧ Leads B S j k := by
  constructor
  · rintro ⟨h1, h2, u, v, h3, hA, hB⟩
    have hl := congrArg List.length h3
    simp only [List.length_take, List.length_drop, List.length_append] at hl
    have hj : i + u.length ≤ k := by omega
    have hc := seg_cut S (Nat.le_add_right i u.length) hj
    rw [h3, Nat.add_sub_cancel_left] at hc
    have hlu : ((S.drop i).take u.length).length = u.length := by rw [List.length_take, List.length_drop]; omega
    obtain ⟨e1, e2⟩ := List.append_inj hc hlu.symm
    exact ⟨i + u.length, ⟨Nat.le_add_right _ _, by omega, by rw [Nat.add_sub_cancel_left, ← e1]; exact hA⟩, hj, h2, by rw [← e2]; exact hB⟩
  · rintro ⟨j, ⟨h1, h2, hA⟩, h3, h4, hB⟩
    exact ⟨by omega, h4, _, _, seg_cut S h1 h3, hA, hB⟩
theorem leads_opt (A : Lang) (S : List UInt8) (i j : Nat) (hi : i ≤ S.length) : Leads (optL A) S i j ↔ i = j ∨ Leads A S i j := by
  have : ∀ s, optL A s ↔ altL epsL A s := fun s => Iff.rfl
  rw [Leads.congr this, leads_alt, leads_eps S i j hi]
theorem plus_first (A : Lang) (s : List UInt8) : PlusL A s ↔ A s ∨ catL A (PlusL A) s := by
  constructor
  · rintro ⟨us, h1, rfl, h3⟩
    cases us with
    | nil => exact absurd rfl h1
    | cons u us =>
      by_cases he : us = []
      · subst he; left; simpa using h3 u (by simp)
      · exact .inr ⟨u, us.flatten, by simp, h3 u (by simp), us, he, rfl, fun x hx => h3 x (by simp [hx])⟩
  · rintro (h | ⟨u, v, rfl, hu, hv⟩)
    · exact .one h
    · exact .more hu hv
theorem leads_plus (A : Lang) (S : List UInt8) (i j : Nat) : Leads (PlusL A) S i j ↔ Leads A S i j ∨ ∃ k, Leads A S i k ∧ Leads (PlusL A) S k j := by
  rw [Leads.congr (plus_first A), show (fun s => A s ∨ catL A (PlusL A) s) = altL A (catL A (PlusL A)) from rfl, leads_alt, leads_cat]
/-- What is closed under steps is closed under many. -/
theorem plus_closed {A : Lang} {S : List UInt8} {p : Nat → Prop} (hc : ∀ i j, p i → Leads A S i j → p j) {i j : Nat} (hi : p i) (h : Leads (PlusL A) S i j) : p j := by
  obtain ⟨h1, h2, us, h3, h4, h5⟩ := h
  clear h3
  induction us generalizing i with
  | nil =>
    have := congrArg List.length h4
    simp at this
    obtain rfl : i = j := by omega
    exact hi
  | cons u us ih =>
    rw [List.flatten_cons] at h4
    have hl := congrArg List.length h4
    simp only [List.length_take, List.length_drop, List.length_append] at hl
    have hj : i + u.length ≤ j := by omega
    have hcut := seg_cut S (Nat.le_add_right i u.length) hj
    rw [h4, Nat.add_sub_cancel_left] at hcut
    have hlu : ((S.drop i).take u.length).length = u.length := by rw [List.length_take, List.length_drop]; omega
    obtain ⟨e1, e2⟩ := List.append_inj hcut hlu.symm
    refine ih (i := i + u.length) ?_ hj e2.symm (fun x hx => h5 x (by simp [hx]))
    refine hc i _ hi ⟨Nat.le_add_right _ _, by omega, ?_⟩
    rw [Nat.add_sub_cancel_left, ← e1]
    exact h5 u (by simp)
theorem leads_plus_app {A : Lang} {S : List UInt8} {i j k : Nat} (h : Leads (PlusL A) S i j) (h2 : Leads A S j k) : Leads (PlusL A) S i k := by
  refine ⟨by have := h.1; have := h2.1; omega, h2.2.1, ?_⟩
  rw [seg_cut S h.1 h2.1]
  exact h.2.2.app (.one h2.2.2)

/-! Lists of places. -/
theorem at_or {la lb : List Bool} (hl : lb.length = la.length) (j : Nat) : At (List.zipWith (· || ·) la lb) j ↔ At la j ∨ At lb j := by
  unfold At
  rw [List.getElem?_zipWith]
  by_cases h : j < la.length
  · have h2 : j < lb.length := by omega
    rw [List.getElem?_eq_getElem h, List.getElem?_eq_getElem h2]
    cases la[j] <;> cases lb[j] <;> simp
  · rw [List.getElem?_eq_none (by omega : la.length ≤ j), List.getElem?_eq_none (by omega : lb.length ≤ j)]
    simp
theorem or_len {la lb : List Bool} (hl : lb.length = la.length) : (List.zipWith (· || ·) la lb).length = la.length := by simp [hl]
theorem or_more : ∀ (la lb : List Bool), lb.length = la.length → List.zipWith (· || ·) la lb ≠ la → la.count true < (List.zipWith (· || ·) la lb).count true
  | [], _, _, h => absurd rfl h
  | a :: la, b :: lb, hl, h => by
    have hle : ∀ (xs ys : List Bool), ys.length = xs.length → xs.count true ≤ (List.zipWith (· || ·) xs ys).count true := by
      intro xs
      induction xs with
      | nil => intro ys _; simp
      | cons x xs ih =>
        intro ys hy
        cases ys with
        | nil => cases hy
        | cons y ys =>
          have := ih ys (by simpa using hy)
          simp only [List.zipWith_cons_cons, List.count_cons]
          cases x <;> cases y <;> simp <;> omega
    simp only [List.zipWith_cons_cons, List.count_cons]
    by_cases ht : List.zipWith (· || ·) la lb = la
    · rw [ht]
      cases a <;> cases b <;> simp_all
    · have := or_more la lb (by simpa using hl) ht
      cases a <;> cases b <;> simp <;> omega
theorem all_true {l : List Bool} (h : l.length ≤ l.count true) {j : Nat} (hj : j < l.length) : At l j := by
  have : l.count true = l.length := Nat.le_antisymm List.count_le_length h
  have h2 := List.count_eq_length.1 this
  unfold At
  rw [List.getElem?_eq_getElem hj]
  simp only [Option.some.injEq]
  exact (h2 _ (List.getElem_mem hj)).symm

/-! A set: the byte at a place. -/
theorem leads_set (T : UInt8 → Bool) (S : List UInt8) (i j : Nat) : Leads (setL T) S i j ↔ j = i + 1 ∧ ∃ h : i < S.length, T S[i] = true := by
  constructor
  · rintro ⟨h1, h2, c, h3, h4⟩
    have hl := congrArg List.length h3
    simp only [List.length_take, List.length_drop, List.length_singleton] at hl
    have hi : i < S.length := by omega
    refine ⟨by omega, hi, ?_⟩
    rw [List.drop_eq_getElem_cons hi, show j - i = 1 by omega, List.take_succ_cons, List.take_zero] at h3
    injection h3 with h3
    rw [h3]
    exact h4
  · rintro ⟨rfl, hi, h⟩
    refine ⟨by omega, by omega, S[i], ?_, h⟩
    rw [List.drop_eq_getElem_cons hi, show i + 1 - i = 1 by omega, List.take_succ_cons, List.take_zero]
def hopL (T : UInt8 → Bool) (S : List UInt8) (la : List Bool) (k : Nat) : List Bool := (List.range la.length).map fun j => decide (0 < j ∧ j ≤ k) && (la.getD (j - 1) false && T (S.getD (j - 1) 0))
theorem hopL_len (T : UInt8 → Bool) (S : List UInt8) (la : List Bool) (k : Nat) : (hopL T S la k).length = la.length := by simp [hopL]
theorem hopL_zero (T : UInt8 → Bool) (S : List UInt8) (la : List Bool) : hopL T S la 0 = List.replicate la.length false := by
  unfold hopL
  refine List.ext_getElem (by simp) fun i h1 h2 => ?_
  simp
  omega
theorem hopL_hit {T : UInt8 → Bool} {S : List UInt8} {la : List Bool} {k : Nat} (h : (la.getD k false && T (S.getD k 0)) = true) : (hopL T S la k).set (k + 1) true = hopL T S la (k + 1) := by
  refine List.ext_getElem (by simp [hopL]) fun i h1 h2 => ?_
  rw [List.getElem_set]
  by_cases e : k + 1 = i
  · subst e
    simp only [hopL, List.getElem_map, List.getElem_range, if_pos, Nat.add_sub_cancel, h]
    simp
  · rw [if_neg e]
    simp only [hopL, List.getElem_map, List.getElem_range]
    congr 1
    simp only [decide_eq_decide]
    omega
theorem hopL_miss {T : UInt8 → Bool} {S : List UInt8} {la : List Bool} {k : Nat} (h : (la.getD k false && T (S.getD k 0)) = false) : hopL T S la k = hopL T S la (k + 1) := by
  refine List.ext_getElem (by simp [hopL]) fun i h1 h2 => ?_
  simp only [hopL, List.getElem_map, List.getElem_range]
  by_cases e : i = k + 1
  · subst e
    rw [Nat.add_sub_cancel, h]
    simp
  · congr 1
    simp only [decide_eq_decide]
    omega
theorem outs_set (T : UInt8 → Bool) (S : List UInt8) (la : List Bool) (hl : la.length = S.length + 1) : Outs (setL T) S la (hopL T S la S.length) := by
  refine ⟨hopL_len _ _ _ _, fun j => ?_⟩
  simp only [leads_set]
  constructor
  · intro h
    have hj := h.lt
    rw [hopL_len] at hj
    unfold At hopL at h
    rw [List.getElem?_map, List.getElem?_range hj] at h
    simp only [Option.map_some, Option.some.injEq, Bool.and_eq_true, decide_eq_true_eq] at h
    obtain ⟨⟨h1, h2⟩, h3, h4⟩ := h
    have hi : j - 1 < S.length := by omega
    refine ⟨j - 1, ?_, by omega, hi, ?_⟩
    · unfold At
      rw [List.getElem?_eq_getElem (by omega)]
      simp only [List.getD, List.getElem?_eq_getElem (show j - 1 < la.length by omega), Option.getD_some] at h3
      rw [h3]
    · simp only [List.getD, List.getElem?_eq_getElem hi, Option.getD_some] at h4
      exact h4
  · rintro ⟨i, h1, rfl, hi, h2⟩
    unfold At hopL
    rw [List.getElem?_map, List.getElem?_range (by omega)]
    simp only [Option.map_some, Option.some.injEq, Bool.and_eq_true, decide_eq_true_eq, Nat.add_sub_cancel]
    refine ⟨⟨by omega, by omega⟩, ?_, ?_⟩
    · unfold At at h1
      simp [List.getD, h1]
    · simp [List.getD, hi, h2]

/-! How the places of the parts make those of the whole. -/
section
variable {A B L A' : Lang} {S : List UInt8} {la lb lc l0 out : List Bool}
theorem outs_eps (hl : la.length = S.length + 1) : Outs epsL S la la := ⟨rfl, fun j => by
  constructor
  · intro h; exact ⟨j, h, (leads_eps S j j (by have := h.lt; omega)).2 rfl⟩
  · rintro ⟨i, h, k⟩
    rw [← (leads_eps S i j (by have := h.lt; omega)).1 k]
    exact h⟩
theorem outs_cat (h1 : Outs A S la lb) (h2 : Outs B S lb lc) : Outs (catL A B) S la lc := ⟨h2.1.trans h1.1, fun j => by
  rw [h2.2 j]
  constructor
  · rintro ⟨k, hk, hB⟩
    obtain ⟨i, hi, hA⟩ := (h1.2 k).1 hk
    exact ⟨i, hi, (leads_cat A B S i j).2 ⟨k, hA, hB⟩⟩
  · rintro ⟨i, hi, h⟩
    obtain ⟨k, hA, hB⟩ := (leads_cat A B S i j).1 h
    exact ⟨k, (h1.2 k).2 ⟨i, hi, hA⟩, hB⟩⟩
theorem outs_no : Outs noL S la (List.replicate la.length false) := ⟨by simp, fun j => by
  constructor
  · intro h
    unfold At at h
    rw [List.getElem?_replicate] at h
    split at h <;> simp at h
  · rintro ⟨i, -, h⟩
    exact absurd h (leads_no S i j)⟩
theorem outs_alt (h1 : Outs A S la lb) (h2 : Outs B S la lc) : Outs (altL A B) S la (List.zipWith (· || ·) lb lc) := ⟨by rw [or_len (by rw [h1.1, h2.1]), h1.1], fun j => by
  rw [at_or (by rw [h1.1, h2.1]), h1.2, h2.2]
  simp only [leads_alt]
  constructor
  · rintro (⟨i, h, k⟩ | ⟨i, h, k⟩)
    · exact ⟨i, h, .inl k⟩
    · exact ⟨i, h, .inr k⟩
  · rintro ⟨i, h, k | k⟩
    · exact .inl ⟨i, h, k⟩
    · exact .inr ⟨i, h, k⟩⟩
theorem outs_opt (hl : la.length = S.length + 1) (h : Outs A S la lb) : Outs (optL A) S la (List.zipWith (· || ·) la lb) := (outs_alt (outs_eps hl) h).as fun _ => Iff.rfl

/-- A pattern that may go on. -/
def Goes (A' L : Lang) (S : List UInt8) : Prop := ∀ i j k, i ≤ S.length → Leads A' S i j → Leads L S j k → Leads A' S i k
theorem goes_plus : Goes (PlusL L) L S := fun _ _ _ _ h1 h2 => leads_plus_app h1 h2
theorem goes_star : Goes (optL (PlusL L)) L S := fun i j k hi h1 h2 => by
  rw [leads_opt _ _ _ _ hi] at h1 ⊢
  rcases h1 with rfl | h1
  · exact .inr ((leads_plus L S i k).2 (.inl h2))
  · exact .inr (leads_plus_app h1 h2)
/-- Places that grow. -/
structure Grown (A' : Lang) (S : List UInt8) (la l0 out : List Bool) (k : Nat) : Prop where
  len : out.length = la.length
  all : ∀ j, At l0 j → At out j
  led : ∀ j, At out j → ∃ i, At la i ∧ Leads A' S i j
  cnt : k ≤ out.count true
theorem Grown.step {k : Nat} (hg : Goes A' L S) (hl : la.length = S.length + 1) (h : Grown A' S la l0 out k) (ho : Outs L S out lb) (hne : List.zipWith (· || ·) out lb ≠ out) : Grown A' S la l0 (List.zipWith (· || ·) out lb) (k + 1) := by
  refine ⟨(or_len ho.1).trans h.len, fun j hj => (at_or ho.1 j).2 (.inl (h.all j hj)), fun j hj => ?_, ?_⟩
  · rcases (at_or ho.1 j).1 hj with hj | hj
    · exact h.led j hj
    · obtain ⟨i, hi, h2⟩ := (ho.2 j).1 hj
      obtain ⟨i0, h3, h4⟩ := h.led i hi
      exact ⟨i0, h3, hg i0 i j (by have := h3.lt; omega) h4 h2⟩
  · have := or_more out lb ho.1 hne
    have := h.cnt
    omega
theorem closed_same (ho : Outs L S out lb) (he : List.zipWith (· || ·) out lb = out) : ∀ i j, At out i → Leads L S i j → At out j := fun i j hi h => by
  rw [← he]
  exact (at_or ho.1 j).2 (.inr ((ho.2 j).2 ⟨i, hi, h⟩))
theorem Grown.closed {k : Nat} (hl : la.length = S.length + 1) (h : Grown A' S la l0 out k) (hk : la.length ≤ k) : ∀ i j, At out i → Leads L S i j → At out j := fun i j _ h2 => by
  have h1 := h.cnt
  have h3 := h.len
  exact all_true (by omega) (by have := h2.2.1; omega)
theorem Grown.star {k : Nat} (hl : la.length = S.length + 1) (h : Grown (optL (PlusL L)) S la la out k) (hc : ∀ i j, At out i → Leads L S i j → At out j) : Outs (optL (PlusL L)) S la out := ⟨h.len, fun j => ⟨h.led j, fun ⟨i, hi, h2⟩ => by
  rcases (leads_opt _ _ _ _ (by have := hi.lt; omega)).1 h2 with rfl | h2
  · exact h.all i hi
  · exact plus_closed hc (h.all i hi) h2⟩⟩
theorem Grown.plus {k : Nat} (h0 : Outs L S la l0) (h : Grown (PlusL L) S la l0 out k) (hc : ∀ i j, At out i → Leads L S i j → At out j) : Outs (PlusL L) S la out := ⟨h.len, fun j => ⟨h.led j, fun ⟨i, hi, h2⟩ => by
  rcases (leads_plus _ _ _ _).1 h2 with h2 | ⟨k, h3, h4⟩
  · exact h.all j ((h0.2 j).2 ⟨i, hi, h2⟩)
  · exact plus_closed hc (h.all k ((h0.2 k).2 ⟨i, hi, h3⟩)) h4⟩⟩
theorem grown_star (hl : la.length = S.length + 1) : Grown (optL (PlusL L)) S la la la 0 := ⟨rfl, fun _ h => h, fun j hj => ⟨j, hj, (leads_opt _ _ _ _ (by have := hj.lt; omega)).2 (.inl rfl)⟩, Nat.zero_le _⟩
theorem grown_plus (h0 : Outs L S la l0) : Grown (PlusL L) S la l0 l0 0 := ⟨h0.1, fun _ h => h, fun j hj => by
  obtain ⟨i, hi, h⟩ := (h0.2 j).1 hj
  exact ⟨i, hi, (leads_plus _ _ _ _).2 (.inl h)⟩, Nat.zero_le _⟩
end

theorem wpList_load_part {ops : Array Oper} {rest : List Oper} {o : Oper} {a : Act} {w : World} {Q : Exit → Act → World → Prop} (hgd : o.guard = none) (x : Operand) (ho : o.op = .load 207 x) (g off : Nat) (hx : a.eval x = .pointer (some ⟨g, off, none⟩)) (t : TV)
    (hc : ∀ j, j < 258 → w.cell? ⟨g, off + j, none⟩ = (treeL t)[j]?) (hk : wpList Tryz.prog ops Q rest (a.put o.dst (.agg (treeC t))) w) : wpList Tryz.prog ops Q (o :: rest) a w :=
  wpList_load_mid hgd 207 x ho g off hx (treeL t) _ (fun j v hv => by
    have hj : j < 258 := by have := (List.getElem?_eq_some_iff.1 hv).1; rwa [treeL_len] at this
    rw [hc j hj]; exact hv) Tryz.underlying207 rfl (by rw [treeL_len]; kernel_rfl) hk

/-- Places are told. -/
def EndsE (A : Lang) (S : List UInt8) (la : List Bool) (e : Ending) (w' : World) : Prop := ∃ a' c' lb, e = .returned (.slice a' la.length c') ∧ BoolsAt w' a' lb ∧ Outs A S la lb
/-- ends tells the places to which a tree leads. -/
def EndsAt (s : ByteArray) (t : TV) (A : Lang) (u : World) : Prop := ∀ (a : Option Addr) (c : Nat) (la : List Bool), la.length = s.size + 1 → BoolsAt u a la →
  Calls Tryz.prog 190 #[.agg (treeC t), .string s, .slice a la.length c] u fun e w' => EndsE A s.data.toList la e w' ∧ Below u.heap.size u w'

theorem part_cells {w wr : World} {ta : Option Addr} {ts : List TV} (h : TreesAt w (fun b => b < w.heap.size) ta ts.length ts) (hb : Below w.heap.size w wr) (k : Nat) (hk : k < ts.length) : ∃ g, ta = some ⟨g, 0, none⟩ ∧ ∀ j, j < 258 → wr.cell? ⟨g, k * 258 + j, none⟩ = (treeL ts[k])[j]? := by
  rcases h.2.2 with h0 | ⟨g, e, hg, hc⟩
  · omega
  · exact ⟨g, e, fun j hj => by rw [hb.cell (p := ⟨g, k * 258 + j, none⟩) hg]; exact hc k hk j hj⟩
theorem foldl_snoc' {α : Type} (f : Lang → α → Lang) (z : Lang) (l : List α) (x : α) : (l ++ [x]).foldl f z = f (l.foldl f z) x := by simp

set_option maxRecDepth 20000 in
set_option maxHeartbeats 4000000 in
theorem ends_set (s : ByteArray) (T : BSet) (ta : Option Addr) (tn tc : Nat) (w : World) (hs : s.size ≤ 1000) : EndsAt s ⟨0, T, ta, tn, tc⟩ (setL T) w := by
  intro a c la hla hba
  have hla1 : s.size < la.length := by omega
  have hla2 : la.length ≤ s.size + 1 := by omega
  have HLA := Lib.hid hla
  clear hla
  obtain ⟨i0, hi, hi0, hi1, hi2⟩ := info_parts infoBool
  have HI := Lib.hid (And.intro hi0 (And.intro hi1 hi2))
  clear hi0 hi1 hi2
  have hA := (Below.refl w.heap.size w).alloc (Nat.le_refl _) (.cells (treeC ⟨0, T, ta, tn, tc⟩) 207)
  have tb0 := TreeBlk.new w ⟨0, T, ta, tn, tc⟩
  go_enter Tryz.func190, Tryz.ntmps190
  go_wp2_with (at_make; refine Hid.out ?_)
  refine Lib.hid ?_
  refine wpList_make_full _ rfl _ _ 251 rfl w.heap.size 4 i0 (.bool false) 1 Tryz.underlying251 hi HI.out.1 HI.out.2.1 .i64 .i64 _ _ la.length rfl rfl rfl rfl (by rw [HI.out.2.2]; omega) (by unfold maxLen; omega) (by simp) ?_
  intro W hown hgrow
  rw [made_false] at hown
  have own0 : OwnBo W w.heap.size (w.heap.size + 1) la.length (List.replicate la.length false) := by
    unfold OwnBo
    simpa using hown
  have hgW : Below (w.heap.size + 1) (w.alloc (.cells (treeC ⟨0, T, ta, tn, tc⟩) 207)) W := (Below.refl _ _).grown hgrow (by simp) (by simp)
  have hbW : Below w.heap.size w W := hA.trans (hgW.mono (by omega))
  have tbW : TreeBlk W w.heap.size ⟨0, T, ta, tn, tc⟩ := (hgW.block _ (by omega)).trans tb0
  have ck : W.cell? ⟨w.heap.size, 0, none⟩ = some (.int .i64 0) := tbW.kind
  clear hown hgrow HI hi hA tb0 hgW
  have HLS : Hid (la.length = s.data.toList.length + 1) := Lib.hid (by rw [HLA.out]; simp)
  rw [← hopL_zero T s.data.toList la] at own0
  have hba0 := hba.below hbW
  go_wp2_with fail
  go_loopw [8] (fun iv wr => ∃ k : Nat, k ≤ s.size ∧ iv = .int .i64 k ∧ OwnBo wr w.heap.size (w.heap.size + 1) la.length (hopL T s.data.toList la k) ∧ TreeBlk wr w.heap.size ⟨0, T, ta, tn, tc⟩ ∧ Below w.heap.size w wr) (fun iv _ => s.size - (intOf iv).toNat)
  case atStart => exact ⟨0, Nat.zero_le _, rfl, own0, tbW, hbW⟩
  case round =>
    clear own0 tbW hbW ck hba0
    obtain ⟨k, hk, rfl, own, tb, hb⟩ := hrel
    have hbar := hba.below hb
    by_cases hlt : k < s.size
    · have hki : (k : Int) < (s.size : Int) := by omega
      obtain ⟨g, rfl, ca⟩ := hbar k (by omega)
      have cb := tb.bit s[k]
      have hc8 : (s[k].toNat : Int) < 256 := by have := s[k].toNat_lt; omega
      have hkl : (k : Int) < (la.length : Int) := by omega
      have hkl2 : (k : Int) + 1 < (la.length : Int) := by omega
      have hrd := own.reads (hopL_len _ _ _ _)
      obtain ⟨g3, e3, c3⟩ := hrd (k + 1) (by rw [hopL_len]; omega)
      obtain rfl : w.heap.size + 1 = g3 := by injection e3 with e3; injection e3
      have f3 := World.ownsRow.frozenAt own (k + 1)
      have hgl : la.getD k false = la[k] := by simp [List.getD, show k < la.length by omega]
      have hgs : s.data.toList.getD k 0 = s[k] := by
        have h2 : k < s.data.toList.length := by simpa using hlt
        rw [List.getD, List.getElem?_eq_getElem h2]
        rfl
      cases hx : la[k] with
      | true =>
        cases hy : T s[k] with
        | true =>
          have own2 := own.set (k + 1) true
          rw [hopL_hit (by rw [hgl, hgs, hx, hy]; rfl)] at own2
          have hb2 := hb.setCell (p := ⟨w.heap.size + 1, k + 1, none⟩) (by show w.heap.size ≤ w.heap.size + 1; omega) (.bool true)
          have tb2 := tb.kept (xgrown_setCell wr (w.heap.size + 1) (k + 1) (.bool true)) (by simp)
          have hy' : (⟨0, T, ta, tn, tc⟩ : TV).T s[k] = true := hy
          rw [hx] at ca
          rw [hy'] at cb
          clear hx hy hy' hgl hgs e3 own tb hb hbar hba hrd
          go_wp2
          go_roundw
          case rel => exact ⟨k + 1, by omega, by go_num, own2, tb2, hb2⟩
          case measure => simp [intOf]; omega
        | false =>
          rw [hopL_miss (by rw [hgl, hgs, hx, hy]; rfl)] at own
          have hy' : (⟨0, T, ta, tn, tc⟩ : TV).T s[k] = false := hy
          rw [hx] at ca
          rw [hy'] at cb
          clear hx hy hy' hgl hgs e3 hbar hba hrd c3 f3
          go_wp2
          go_roundw
          case rel => exact ⟨k + 1, by omega, by go_num, own, tb, hb⟩
          case measure => simp [intOf]; omega
      | false =>
        rw [hopL_miss (by rw [hgl, hx]; rfl)] at own
        rw [hx] at ca
        clear hx hgl hgs e3 hbar hba hrd c3 f3 cb
        go_wp2
        go_roundw
        case rel => exact ⟨k + 1, by omega, by go_num, own, tb, hb⟩
        case measure => simp [intOf]; omega
    · have hki : ¬ (k : Int) < (s.size : Int) := by omega
      have hkl : k = s.data.toList.length := by simp; omega
      subst hkl
      have hrd := own.reads (hopL_len _ _ _ _)
      have HO := Lib.hid (outs_set T s.data.toList la HLS.out)
      clear own
      generalize hopL T s.data.toList la s.data.toList.length = lb at *
      go_wp2
      go_ret
      exact ⟨⟨_, _, lb, rfl, hrd, HO.out⟩, hb⟩

set_option maxRecDepth 20000 in
set_option maxHeartbeats 4000000 in
theorem ends_row (s : ByteArray) (T : BSet) (ta : Option Addr) (tc : Nat) (ts : List TV) (Ls : List Lang) (w : World) (hs : s.size ≤ 1000) (hT : TreesAt w (fun b => b < w.heap.size) ta ts.length ts) (hl : ts.length = Ls.length) (hn : ts.length ≤ 9223372036854775807)
    (HP : ∀ i (h1 : i < ts.length) (h2 : i < Ls.length) u, Below w.heap.size w u → EndsAt s ts[i] Ls[i] u) : EndsAt s ⟨1, T, ta, ts.length, tc⟩ (Ls.foldl catL epsL) w := by
  have HHP := Lib.hid HP
  have HT := Lib.hid hT
  have HL := Lib.hid hl
  have hl1 : ts.length ≤ Ls.length := by omega
  clear HP hT hl
  intro a c la hla hba
  have hla1 : s.size < la.length := by omega
  have hla2 : la.length ≤ s.size + 1 := by omega
  have HLA := Lib.hid hla
  clear hla
  obtain ⟨i0, hi, hi0, hi1, hi2⟩ := info_parts infoBool
  have HI := Lib.hid (And.intro hi0 (And.intro hi1 hi2))
  clear hi0 hi1 hi2
  have hA := (Below.refl w.heap.size w).alloc (Nat.le_refl _) (.cells (treeC ⟨1, T, ta, ts.length, tc⟩) 207)
  have tb0 := TreeBlk.new w ⟨1, T, ta, ts.length, tc⟩
  go_enter Tryz.func190, Tryz.ntmps190
  go_wp2_with (at_make; refine Hid.out ?_)
  refine Lib.hid ?_
  refine wpList_make_full _ rfl _ _ 251 rfl w.heap.size 4 i0 (.bool false) 1 Tryz.underlying251 hi HI.out.1 HI.out.2.1 .i64 .i64 _ _ la.length rfl rfl rfl rfl (by rw [HI.out.2.2]; omega) (by unfold maxLen; omega) (by simp) ?_
  intro W hown hgrow
  rw [made_false] at hown
  have own0 : OwnBo W w.heap.size (w.heap.size + 1) la.length (List.replicate la.length false) := by
    unfold OwnBo
    simpa using hown
  have hgW : Below (w.heap.size + 1) (w.alloc (.cells (treeC ⟨1, T, ta, ts.length, tc⟩) 207)) W := (Below.refl _ _).grown hgrow (by simp) (by simp)
  have hbW : Below w.heap.size w W := hA.trans (hgW.mono (by omega))
  have tbW : TreeBlk W w.heap.size ⟨1, T, ta, ts.length, tc⟩ := (hgW.block _ (by omega)).trans tb0
  have ck : W.cell? ⟨w.heap.size, 0, none⟩ = some (.int .i64 1) := tbW.kind
  clear hown hgrow HI hi hA tb0 hgW
  have HLS : Hid (la.length = s.data.toList.length + 1) := Lib.hid (by rw [HLA.out]; simp)
  have hba0 := hba.below hbW
  clear own0
  go_wp2_with fail
  go_loopw [7, 9] (fun ov iv wr => ∃ (k : Nat) (a' : Option Addr) (c' : Nat) (lb : List Bool), k ≤ ts.length ∧ iv = .int .i64 k ∧ ov = .slice a' la.length c' ∧ BoolsAt wr a' lb ∧ Hid (Outs ((Ls.take k).foldl catL epsL) s.data.toList la lb) ∧ TreeBlk wr w.heap.size ⟨1, T, ta, ts.length, tc⟩ ∧ Below w.heap.size w wr) (fun _ iv _ => ts.length - (intOf iv).toNat)
  case atStart => exact ⟨0, a, c, la, Nat.zero_le _, rfl, rfl, hba0, Lib.hid (outs_eps HLS.out), tbW, hbW⟩
  case round =>
    clear hba0 tbW hbW ck hba
    obtain ⟨k, a', c', lb, hk, rfl, rfl, hbr, HO, tb, hb⟩ := hrel
    have cp : wr.cell? ⟨w.heap.size, 257, none⟩ = some (.slice ta ts.length tc) := tb.parts
    by_cases hlt : k < ts.length
    · have hki : (k : Int) < (ts.length : Int) := by omega
      obtain ⟨g, rfl, hcell⟩ := part_cells HT.out hb k hlt
      have HE := HHP.out k hlt (by omega) wr hb a' c' lb (HO.out.1.trans HLA.out) hbr
      rw [HO.out.1] at HE
      have HE' := Lib.hid HE
      have HC := Lib.hid hcell
      clear HE hcell
      go_wp2_with (first | (with_reducible change wpList Tryz.prog _ _ (_ :: _) _ _; refine wpList_load_part rfl _ rfl g (k * 258) rfl ts[k] HC.out ?_) | (go_at_call 190; refine HE'.out.mono ?_; rintro e w2 ⟨⟨a2, c2, lc, rfl, hb2, ho2⟩, q2⟩; refine Hid.out ?_))
      refine Lib.hid ?_
      have HO2 : Hid (Outs ((Ls.take (k + 1)).foldl catL epsL) s.data.toList la lc) := Lib.hid (by
        rw [List.take_succ_eq_append_getElem (by omega), foldl_snoc']
        exact outs_cat HO.out ho2)
      have HLL := Lib.hid HO.out.1
      have tb2 := tb.below q2
      have hb3 := hb.trans (q2.mono hb.size)
      clear ho2 HO HE' HC cp tb hbr hb q2
      go_wp2
      go_roundw
      case rel => exact ⟨k + 1, a2, c2, lc, by omega, by go_num, by rw [HLL.out], hb2, HO2, tb2, hb3⟩
      case measure => simp [intOf]; omega
    · have hki : ¬ (k : Int) < (ts.length : Int) := by omega
      obtain rfl : k = ts.length := by omega
      have HO2 : Hid (Outs (Ls.foldl catL epsL) s.data.toList la lb) := Lib.hid (by
        have := HO.out
        rw [HL.out, List.take_length] at this
        exact this)
      clear HO
      go_wp2
      go_ret
      exact ⟨⟨_, _, lb, rfl, hbr, HO2.out⟩, hb⟩

set_option maxRecDepth 20000 in
set_option maxHeartbeats 4000000 in
theorem ends_rows (s : ByteArray) (T : BSet) (ta : Option Addr) (tc : Nat) (ts : List TV) (Ls : List Lang) (w : World) (hs : s.size ≤ 1000) (hT : TreesAt w (fun b => b < w.heap.size) ta ts.length ts) (hl : ts.length = Ls.length) (hn : ts.length ≤ 9223372036854775807)
    (HP : ∀ i (h1 : i < ts.length) (h2 : i < Ls.length) u, Below w.heap.size w u → EndsAt s ts[i] Ls[i] u) : EndsAt s ⟨2, T, ta, ts.length, tc⟩ (Ls.foldl altL noL) w := by
  have HHP := Lib.hid HP
  have HT := Lib.hid hT
  have HL := Lib.hid hl
  have hl1 : ts.length ≤ Ls.length := by omega
  clear HP hT hl
  intro a c la hla hba
  have hla1 : s.size < la.length := by omega
  have hla2 : la.length ≤ s.size + 1 := by omega
  have HLA := Lib.hid hla
  clear hla
  obtain ⟨i0, hi, hi0, hi1, hi2⟩ := info_parts infoBool
  have HI := Lib.hid (And.intro hi0 (And.intro hi1 hi2))
  clear hi0 hi1 hi2
  have hA := (Below.refl w.heap.size w).alloc (Nat.le_refl _) (.cells (treeC ⟨2, T, ta, ts.length, tc⟩) 207)
  have tb0 := TreeBlk.new w ⟨2, T, ta, ts.length, tc⟩
  go_enter Tryz.func190, Tryz.ntmps190
  go_wp2_with (at_make; refine Hid.out ?_)
  refine Lib.hid ?_
  refine wpList_make_full _ rfl _ _ 251 rfl w.heap.size 4 i0 (.bool false) 1 Tryz.underlying251 hi HI.out.1 HI.out.2.1 .i64 .i64 _ _ la.length rfl rfl rfl rfl (by rw [HI.out.2.2]; omega) (by unfold maxLen; omega) (by simp) ?_
  intro W hown hgrow
  rw [made_false] at hown
  have own0 : OwnBo W w.heap.size (w.heap.size + 1) la.length (List.replicate la.length false) := by
    unfold OwnBo
    simpa using hown
  have hgW : Below (w.heap.size + 1) (w.alloc (.cells (treeC ⟨2, T, ta, ts.length, tc⟩) 207)) W := (Below.refl _ _).grown hgrow (by simp) (by simp)
  have hbW : Below w.heap.size w W := hA.trans (hgW.mono (by omega))
  have tbW : TreeBlk W w.heap.size ⟨2, T, ta, ts.length, tc⟩ := (hgW.block _ (by omega)).trans tb0
  have ck : W.cell? ⟨w.heap.size, 0, none⟩ = some (.int .i64 2) := tbW.kind
  clear hown hgrow HI hi hA tb0 hgW
  have HLS : Hid (la.length = s.data.toList.length + 1) := Lib.hid (by rw [HLA.out]; simp)
  have hrd0 := own0.reads (by simp)
  clear own0
  go_wp2_with fail
  go_loopw [7, 10] (fun ov iv wr => ∃ (k : Nat) (a' : Option Addr) (c' : Nat) (lb : List Bool), k ≤ ts.length ∧ iv = .int .i64 k ∧ ov = .slice a' la.length c' ∧ BoolsAt wr a' lb ∧ Hid (Outs ((Ls.take k).foldl altL noL) s.data.toList la lb) ∧ TreeBlk wr w.heap.size ⟨2, T, ta, ts.length, tc⟩ ∧ Below w.heap.size w wr) (fun _ iv _ => ts.length - (intOf iv).toNat)
  case atStart => exact ⟨0, _, _, _, Nat.zero_le _, rfl, rfl, hrd0, Lib.hid outs_no, tbW, hbW⟩
  case round =>
    clear hrd0 tbW hbW ck
    obtain ⟨k, a', c', lb, hk, rfl, rfl, hbr, HO, tb, hb⟩ := hrel
    have cp : wr.cell? ⟨w.heap.size, 257, none⟩ = some (.slice ta ts.length tc) := tb.parts
    by_cases hlt : k < ts.length
    · have hki : (k : Int) < (ts.length : Int) := by omega
      obtain ⟨g, rfl, hcell⟩ := part_cells HT.out hb k hlt
      have HE' := Lib.hid (HHP.out k hlt (by omega) wr hb a c la HLA.out (hba.below hb))
      have HC := Lib.hid hcell
      clear hcell
      go_wp2_with (first | (with_reducible change wpList Tryz.prog _ _ (_ :: _) _ _; refine wpList_load_part rfl _ rfl g (k * 258) rfl ts[k] HC.out ?_) | (go_at_call 190; refine HE'.out.mono ?_; rintro e w2 ⟨⟨a2, c2, lc, rfl, hb2, ho2⟩, q2⟩; refine Hid.out ?_))
      refine Lib.hid ?_
      have HLL := Lib.hid HO.out.1
      have HU := union_any a' a2 c' c2 lb lc w2 (hbr.below q2) hb2 (by rw [ho2.1, HLL.out]) (by rw [HLL.out]; omega)
      rw [HLL.out] at HU
      have HU' := Lib.hid HU
      clear HU
      go_wp2_with (go_at_call 210; refine HU'.out.mono ?_; rintro e w3 ⟨⟨g3, rfl, hb3⟩, q3⟩; refine Hid.out ?_)
      refine Lib.hid ?_
      have HO2 : Hid (Outs ((Ls.take (k + 1)).foldl altL noL) s.data.toList la (List.zipWith (· || ·) lb lc)) := Lib.hid (by
        rw [List.take_succ_eq_append_getElem (by omega), foldl_snoc']
        exact outs_alt HO.out ho2)
      have tb2 := (tb.below q2).below q3
      have hb4 := hb.trans (q2.mono hb.size)
      have hb5 := hb4.trans (q3.mono hb4.size)
      clear ho2 HO HE' HC cp tb hbr hb q2 q3 HU' hb2 hb4
      go_wp2
      go_roundw
      case rel => exact ⟨k + 1, _, _, _, by omega, by go_num, rfl, hb3, HO2, tb2, hb5⟩
      case measure => simp [intOf]; omega
    · have hki : ¬ (k : Int) < (ts.length : Int) := by omega
      obtain rfl : k = ts.length := by omega
      have HO2 : Hid (Outs (Ls.foldl altL noL) s.data.toList la lb) := Lib.hid (by
        have := HO.out
        rw [HL.out, List.take_length] at this
        exact this)
      clear HO
      go_wp2
      go_ret
      exact ⟨⟨_, _, lb, rfl, hbr, HO2.out⟩, hb⟩

set_option maxRecDepth 20000 in
set_option maxHeartbeats 4000000 in
theorem ends_maybe (s : ByteArray) (T : BSet) (ta : Option Addr) (tc : Nat) (p : TV) (L : Lang) (w : World) (hs : s.size ≤ 1000) (hT : TreesAt w (fun b => b < w.heap.size) ta 1 [p]) (HP : ∀ u, Below w.heap.size w u → EndsAt s p L u) : EndsAt s ⟨5, T, ta, 1, tc⟩ (optL L) w := by
  have HHP := Lib.hid HP
  obtain ⟨g, rfl, hcg⟩ : ∃ g, ta = some ⟨g, 0, none⟩ ∧ Hid (∀ wr, Below w.heap.size w wr → ∀ j, j < 258 → wr.cell? ⟨g, 0 + j, none⟩ = (treeL p)[j]?) := by
    rcases hT.2.2 with h0 | ⟨g, e, hg, hc⟩
    · cases h0
    · exact ⟨g, e, Lib.hid fun wr hb j hj => by
        rw [hb.cell (p := ⟨g, 0 + j, none⟩) hg]
        have := hc 0 (by simp) j hj
        rw [Nat.zero_mul] at this
        exact this⟩
  clear HP hT
  intro a c la hla hba
  have hla1 : s.size < la.length := by omega
  have hla2 : la.length ≤ s.size + 1 := by omega
  have HLA := Lib.hid hla
  clear hla
  obtain ⟨i0, hi, hi0, hi1, hi2⟩ := info_parts infoBool
  have HI := Lib.hid (And.intro hi0 (And.intro hi1 hi2))
  clear hi0 hi1 hi2
  have hA := (Below.refl w.heap.size w).alloc (Nat.le_refl _) (.cells (treeC ⟨5, T, some ⟨g, 0, none⟩, 1, tc⟩) 207)
  have tb0 := TreeBlk.new w ⟨5, T, some ⟨g, 0, none⟩, 1, tc⟩
  go_enter Tryz.func190, Tryz.ntmps190
  go_wp2_with (at_make; refine Hid.out ?_)
  refine Lib.hid ?_
  refine wpList_make_full _ rfl _ _ 251 rfl w.heap.size 4 i0 (.bool false) 1 Tryz.underlying251 hi HI.out.1 HI.out.2.1 .i64 .i64 _ _ la.length rfl rfl rfl rfl (by rw [HI.out.2.2]; omega) (by unfold maxLen; omega) (by simp) ?_
  intro W hown hgrow
  rw [made_false] at hown
  have own0 : OwnBo W w.heap.size (w.heap.size + 1) la.length (List.replicate la.length false) := by
    unfold OwnBo
    simpa using hown
  have hgW : Below (w.heap.size + 1) (w.alloc (.cells (treeC ⟨5, T, some ⟨g, 0, none⟩, 1, tc⟩) 207)) W := (Below.refl _ _).grown hgrow (by simp) (by simp)
  have hbW : Below w.heap.size w W := hA.trans (hgW.mono (by omega))
  have tbW : TreeBlk W w.heap.size ⟨5, T, some ⟨g, 0, none⟩, 1, tc⟩ := (hgW.block _ (by omega)).trans tb0
  have ck : W.cell? ⟨w.heap.size, 0, none⟩ = some (.int .i64 5) := tbW.kind
  clear hown hgrow HI hi hA tb0 hgW
  have HLS : Hid (la.length = s.data.toList.length + 1) := Lib.hid (by rw [HLA.out]; simp)
  clear own0
  have cp : W.cell? ⟨w.heap.size, 257, none⟩ = some (.slice (some ⟨g, 0, none⟩) 1 tc) := tbW.parts
  have HC := Lib.hid (hcg.out W hbW)
  have HE' := Lib.hid (HHP.out W hbW a c la HLA.out (hba.below hbW))
  go_wp2_with (first | (with_reducible change wpList Tryz.prog _ _ (_ :: _) _ _; refine wpList_load_part rfl _ rfl g 0 rfl p HC.out ?_) | (go_at_call 190; refine HE'.out.mono ?_; rintro e w2 ⟨⟨a2, c2, lc, rfl, hb2, ho2⟩, q2⟩; refine Hid.out ?_))
  refine Lib.hid ?_
  have hb3 := hbW.trans (q2.mono hbW.size)
  have HU' := Lib.hid (union_any a a2 c c2 la lc w2 (hba.below hb3) hb2 ho2.1 (by omega))
  have HO2 := Lib.hid (outs_opt HLS.out ho2)
  clear ho2 HE' HC cp
  go_wp2_with (go_at_call 210; refine HU'.out.mono ?_; rintro e w3 ⟨⟨g3, rfl, hb4⟩, q3⟩)
  go_ret
  exact ⟨⟨_, _, _, rfl, hb4, HO2.out⟩, hb3.trans (q3.mono hb3.size)⟩

set_option maxRecDepth 20000 in
set_option maxHeartbeats 4000000 in
theorem ends_star (s : ByteArray) (T : BSet) (ta : Option Addr) (tc : Nat) (p : TV) (L : Lang) (w : World) (hs : s.size ≤ 1000) (hT : TreesAt w (fun b => b < w.heap.size) ta 1 [p]) (HP : ∀ u, Below w.heap.size w u → EndsAt s p L u) : EndsAt s ⟨3, T, ta, 1, tc⟩ (optL (PlusL L)) w := by
  have HHP := Lib.hid HP
  obtain ⟨g, rfl, hcg⟩ : ∃ g, ta = some ⟨g, 0, none⟩ ∧ Hid (∀ wr, Below w.heap.size w wr → ∀ j, j < 258 → wr.cell? ⟨g, 0 + j, none⟩ = (treeL p)[j]?) := by
    rcases hT.2.2 with h0 | ⟨g, e, hg, hc⟩
    · cases h0
    · exact ⟨g, e, Lib.hid fun wr hb j hj => by
        rw [hb.cell (p := ⟨g, 0 + j, none⟩) hg]
        have := hc 0 (by simp) j hj
        rw [Nat.zero_mul] at this
        exact this⟩
  clear HP hT
  intro a c la hla hba
  have hla1 : s.size < la.length := by omega
  have hla2 : la.length ≤ s.size + 1 := by omega
  have HLA := Lib.hid hla
  clear hla
  obtain ⟨i0, hi, hi0, hi1, hi2⟩ := info_parts infoBool
  have HI := Lib.hid (And.intro hi0 (And.intro hi1 hi2))
  clear hi0 hi1 hi2
  have hA := (Below.refl w.heap.size w).alloc (Nat.le_refl _) (.cells (treeC ⟨3, T, some ⟨g, 0, none⟩, 1, tc⟩) 207)
  have tb0 := TreeBlk.new w ⟨3, T, some ⟨g, 0, none⟩, 1, tc⟩
  go_enter Tryz.func190, Tryz.ntmps190
  go_wp2_with (at_make; refine Hid.out ?_)
  refine Lib.hid ?_
  refine wpList_make_full _ rfl _ _ 251 rfl w.heap.size 4 i0 (.bool false) 1 Tryz.underlying251 hi HI.out.1 HI.out.2.1 .i64 .i64 _ _ la.length rfl rfl rfl rfl (by rw [HI.out.2.2]; omega) (by unfold maxLen; omega) (by simp) ?_
  intro W hown hgrow
  rw [made_false] at hown
  have own0 : OwnBo W w.heap.size (w.heap.size + 1) la.length (List.replicate la.length false) := by
    unfold OwnBo
    simpa using hown
  have hgW : Below (w.heap.size + 1) (w.alloc (.cells (treeC ⟨3, T, some ⟨g, 0, none⟩, 1, tc⟩) 207)) W := (Below.refl _ _).grown hgrow (by simp) (by simp)
  have hbW : Below w.heap.size w W := hA.trans (hgW.mono (by omega))
  have tbW : TreeBlk W w.heap.size ⟨3, T, some ⟨g, 0, none⟩, 1, tc⟩ := (hgW.block _ (by omega)).trans tb0
  have ck : W.cell? ⟨w.heap.size, 0, none⟩ = some (.int .i64 3) := tbW.kind
  clear hown hgrow HI hi hA tb0 hgW
  have HLS : Hid (la.length = s.data.toList.length + 1) := Lib.hid (by rw [HLA.out]; simp)
  clear own0
  have hba0 := hba.below hbW
  have HG0 : Hid (Grown (optL (PlusL L)) s.data.toList la la la 0) := Lib.hid (grown_star HLS.out)
  go_wp2_with fail
  go_loopw [7, 11] (fun ov iv wr => ∃ (k : Nat) (a' : Option Addr) (c' : Nat) (lb : List Bool), k ≤ s.size + 1 ∧ iv = .int .i64 k ∧ ov = .slice a' la.length c' ∧ BoolsAt wr a' lb ∧ Hid (Grown (optL (PlusL L)) s.data.toList la la lb k) ∧ TreeBlk wr w.heap.size ⟨3, T, some ⟨g, 0, none⟩, 1, tc⟩ ∧ Below w.heap.size w wr) (fun _ iv _ => s.size + 1 - (intOf iv).toNat)
  case atStart => exact ⟨0, a, c, la, Nat.zero_le _, rfl, rfl, hba0, HG0, tbW, hbW⟩
  case round =>
    clear hba0 HG0 tbW hbW ck hba
    obtain ⟨k, a', c', lb, hk, rfl, rfl, hbr, HG, tb, hb⟩ := hrel
    have cp : wr.cell? ⟨w.heap.size, 257, none⟩ = some (.slice (some ⟨g, 0, none⟩) 1 tc) := tb.parts
    by_cases hlt : k ≤ s.size
    · have hki : (k : Int) ≤ (s.size : Int) := by omega
      have HC := Lib.hid (hcg.out wr hb)
      have HE := HHP.out wr hb a' c' lb (HG.out.len.trans HLA.out) hbr
      rw [HG.out.len] at HE
      have HE' := Lib.hid HE
      have HLL := Lib.hid HG.out.len
      clear HE
      go_wp2_with (first | (with_reducible change wpList Tryz.prog _ _ (_ :: _) _ _; refine wpList_load_part rfl _ rfl g 0 rfl p HC.out ?_) | (go_at_call 190; refine HE'.out.mono ?_; rintro e w2 ⟨⟨a2, c2, lc, rfl, hb2, ho2⟩, q2⟩; refine Hid.out ?_))
      refine Lib.hid ?_
      rw [HLL.out]
      have HU := union_any a' a2 c' c2 lb lc w2 (hbr.below q2) hb2 ho2.1 (by rw [HLL.out]; omega)
      rw [HLL.out] at HU
      have HU' := Lib.hid HU
      clear HU HE' HC cp
      go_wp2_with (go_at_call 210; refine HU'.out.mono ?_; rintro e w3 ⟨⟨g3, rfl, hb3⟩, q3⟩; refine Hid.out ?_)
      refine Lib.hid ?_
      have hb4 := hb.trans (q2.mono hb.size)
      have hb5 := hb4.trans (q3.mono hb4.size)
      have hlz : (List.zipWith (· || ·) lb lc).length = lb.length := or_len ho2.1
      have hbq := (hbr.below q2).below q3
      have HS := same_any (some ⟨g3, 0, none⟩) a' la.length c' (List.zipWith (· || ·) lb lc) lb w3 hb3 hbq hlz.symm (by rw [hlz, HLL.out]; omega)
      rw [hlz, HLL.out] at HS
      have tb2 := (tb.below q2).below q3
      have HO2 := Lib.hid ho2
      clear hlz ho2 tb hbr hb hb2 q2 q3 HU' hb4
      by_cases he : List.zipWith (· || ·) lb lc = lb
      · rw [decide_eq_true he] at HS
        have HS' := Lib.hid HS
        have HF := Lib.hid (HG.out.star HLS.out (closed_same HO2.out he))
        clear HS he
        go_wp2_with (go_at_call 211; refine HS'.out.mono ?_; rintro e w4 ⟨rfl, q4⟩)
        go_ret
        exact ⟨⟨_, _, lb, rfl, hbq.below q4, HF.out⟩, hb5.trans (q4.mono hb5.size)⟩
      · rw [decide_eq_false he] at HS
        have HS' := Lib.hid HS
        have HG2 := Lib.hid (HG.out.step goes_star HLS.out HO2.out he)
        clear HS he
        go_wp2_with (go_at_call 211; refine HS'.out.mono ?_; rintro e w4 ⟨rfl, q4⟩; refine Hid.out ?_)
        refine Lib.hid ?_
        have hb6 := hb5.trans (q4.mono hb5.size)
        have tb3 := tb2.below q4
        have hb7 := hb3.below q4
        clear HS' hb5 tb2 hb3 q4 hbq
        go_wp2
        go_roundw
        case rel => exact ⟨k + 1, _, _, _, by omega, by go_num, rfl, hb7, HG2, tb3, hb6⟩
        case measure => simp [intOf]; omega
    · have hki : ¬ (k : Int) ≤ (s.size : Int) := by omega
      have HF := Lib.hid (HG.out.star HLS.out (HG.out.closed HLS.out (by omega)))
      clear HG
      go_wp2
      go_ret
      exact ⟨⟨_, _, lb, rfl, hbr, HF.out⟩, hb⟩

set_option maxRecDepth 20000 in
set_option maxHeartbeats 4000000 in
theorem ends_plus (s : ByteArray) (T : BSet) (ta : Option Addr) (tc : Nat) (p : TV) (L : Lang) (w : World) (hs : s.size ≤ 1000) (hT : TreesAt w (fun b => b < w.heap.size) ta 1 [p]) (HP : ∀ u, Below w.heap.size w u → EndsAt s p L u) : EndsAt s ⟨4, T, ta, 1, tc⟩ (PlusL L) w := by
  have HHP := Lib.hid HP
  obtain ⟨g, rfl, hcg⟩ : ∃ g, ta = some ⟨g, 0, none⟩ ∧ Hid (∀ wr, Below w.heap.size w wr → ∀ j, j < 258 → wr.cell? ⟨g, 0 + j, none⟩ = (treeL p)[j]?) := by
    rcases hT.2.2 with h0 | ⟨g, e, hg, hc⟩
    · cases h0
    · exact ⟨g, e, Lib.hid fun wr hb j hj => by
        rw [hb.cell (p := ⟨g, 0 + j, none⟩) hg]
        have := hc 0 (by simp) j hj
        rw [Nat.zero_mul] at this
        exact this⟩
  clear HP hT
  intro a c la hla hba
  have hla1 : s.size < la.length := by omega
  have hla2 : la.length ≤ s.size + 1 := by omega
  have HLA := Lib.hid hla
  clear hla
  obtain ⟨i0, hi, hi0, hi1, hi2⟩ := info_parts infoBool
  have HI := Lib.hid (And.intro hi0 (And.intro hi1 hi2))
  clear hi0 hi1 hi2
  have hA := (Below.refl w.heap.size w).alloc (Nat.le_refl _) (.cells (treeC ⟨4, T, some ⟨g, 0, none⟩, 1, tc⟩) 207)
  have tb0 := TreeBlk.new w ⟨4, T, some ⟨g, 0, none⟩, 1, tc⟩
  go_enter Tryz.func190, Tryz.ntmps190
  go_wp2_with (at_make; refine Hid.out ?_)
  refine Lib.hid ?_
  refine wpList_make_full _ rfl _ _ 251 rfl w.heap.size 4 i0 (.bool false) 1 Tryz.underlying251 hi HI.out.1 HI.out.2.1 .i64 .i64 _ _ la.length rfl rfl rfl rfl (by rw [HI.out.2.2]; omega) (by unfold maxLen; omega) (by simp) ?_
  intro W hown hgrow
  rw [made_false] at hown
  have own0 : OwnBo W w.heap.size (w.heap.size + 1) la.length (List.replicate la.length false) := by
    unfold OwnBo
    simpa using hown
  have hgW : Below (w.heap.size + 1) (w.alloc (.cells (treeC ⟨4, T, some ⟨g, 0, none⟩, 1, tc⟩) 207)) W := (Below.refl _ _).grown hgrow (by simp) (by simp)
  have hbW : Below w.heap.size w W := hA.trans (hgW.mono (by omega))
  have tbW : TreeBlk W w.heap.size ⟨4, T, some ⟨g, 0, none⟩, 1, tc⟩ := (hgW.block _ (by omega)).trans tb0
  have ck : W.cell? ⟨w.heap.size, 0, none⟩ = some (.int .i64 4) := tbW.kind
  clear hown hgrow HI hi hA tb0 hgW
  have HLS : Hid (la.length = s.data.toList.length + 1) := Lib.hid (by rw [HLA.out]; simp)
  clear own0
  have cp : W.cell? ⟨w.heap.size, 257, none⟩ = some (.slice (some ⟨g, 0, none⟩) 1 tc) := tbW.parts
  have HC := Lib.hid (hcg.out W hbW)
  have HE' := Lib.hid (HHP.out W hbW a c la HLA.out (hba.below hbW))
  go_wp2_with (first | (with_reducible change wpList Tryz.prog _ _ (_ :: _) _ _; refine wpList_load_part rfl _ rfl g 0 rfl p HC.out ?_) | (go_at_call 190; refine HE'.out.mono ?_; rintro e w2 ⟨⟨a0, c0, l0, rfl, hb0, ho0⟩, q2⟩; refine Hid.out ?_))
  refine Lib.hid ?_
  have hbX := hbW.trans (q2.mono hbW.size)
  have tbX := tbW.below q2
  have HG0 := Lib.hid (grown_plus ho0)
  have H0 := Lib.hid ho0
  clear ho0 HE' HC cp ck tbW hbW q2
  go_wp2_with fail
  go_loopw [7, 11] (fun ov iv wr => ∃ (k : Nat) (a' : Option Addr) (c' : Nat) (lb : List Bool), k ≤ s.size + 1 ∧ iv = .int .i64 k ∧ ov = .slice a' la.length c' ∧ BoolsAt wr a' lb ∧ Hid (Grown (PlusL L) s.data.toList la l0 lb k) ∧ TreeBlk wr w.heap.size ⟨4, T, some ⟨g, 0, none⟩, 1, tc⟩ ∧ Below w.heap.size w wr) (fun _ iv _ => s.size + 1 - (intOf iv).toNat)
  case atStart => exact ⟨0, a0, c0, l0, Nat.zero_le _, rfl, rfl, hb0, HG0, tbX, hbX⟩
  case round =>
    clear hbX tbX HG0 hb0
    obtain ⟨k, a', c', lb, hk, rfl, rfl, hbr, HG, tb, hb⟩ := hrel
    have cp : wr.cell? ⟨w.heap.size, 257, none⟩ = some (.slice (some ⟨g, 0, none⟩) 1 tc) := tb.parts
    by_cases hlt : k ≤ s.size
    · have hki : (k : Int) ≤ (s.size : Int) := by omega
      have HC := Lib.hid (hcg.out wr hb)
      have HE := HHP.out wr hb a' c' lb (HG.out.len.trans HLA.out) hbr
      rw [HG.out.len] at HE
      have HE' := Lib.hid HE
      have HLL := Lib.hid HG.out.len
      clear HE
      go_wp2_with (first | (with_reducible change wpList Tryz.prog _ _ (_ :: _) _ _; refine wpList_load_part rfl _ rfl g 0 rfl p HC.out ?_) | (go_at_call 190; refine HE'.out.mono ?_; rintro e w2 ⟨⟨a2, c2, lc, rfl, hb2, ho2⟩, q2⟩; refine Hid.out ?_))
      refine Lib.hid ?_
      rw [HLL.out]
      have HU := union_any a' a2 c' c2 lb lc w2 (hbr.below q2) hb2 ho2.1 (by rw [HLL.out]; omega)
      rw [HLL.out] at HU
      have HU' := Lib.hid HU
      clear HU HE' HC cp
      go_wp2_with (go_at_call 210; refine HU'.out.mono ?_; rintro e w3 ⟨⟨g3, rfl, hb3⟩, q3⟩; refine Hid.out ?_)
      refine Lib.hid ?_
      have hb4 := hb.trans (q2.mono hb.size)
      have hb5 := hb4.trans (q3.mono hb4.size)
      have hlz : (List.zipWith (· || ·) lb lc).length = lb.length := or_len ho2.1
      have hbq := (hbr.below q2).below q3
      have HS := same_any (some ⟨g3, 0, none⟩) a' la.length c' (List.zipWith (· || ·) lb lc) lb w3 hb3 hbq hlz.symm (by rw [hlz, HLL.out]; omega)
      rw [hlz, HLL.out] at HS
      have tb2 := (tb.below q2).below q3
      have HO2 := Lib.hid ho2
      clear hlz ho2 tb hbr hb hb2 q2 q3 HU' hb4
      by_cases he : List.zipWith (· || ·) lb lc = lb
      · rw [decide_eq_true he] at HS
        have HS' := Lib.hid HS
        have HF := Lib.hid (HG.out.plus H0.out (closed_same HO2.out he))
        clear HS he
        go_wp2_with (go_at_call 211; refine HS'.out.mono ?_; rintro e w4 ⟨rfl, q4⟩)
        go_ret
        exact ⟨⟨_, _, lb, rfl, hbq.below q4, HF.out⟩, hb5.trans (q4.mono hb5.size)⟩
      · rw [decide_eq_false he] at HS
        have HS' := Lib.hid HS
        have HG2 := Lib.hid (HG.out.step goes_plus HLS.out HO2.out he)
        clear HS he
        go_wp2_with (go_at_call 211; refine HS'.out.mono ?_; rintro e w4 ⟨rfl, q4⟩; refine Hid.out ?_)
        refine Lib.hid ?_
        have hb6 := hb5.trans (q4.mono hb5.size)
        have tb3 := tb2.below q4
        have hb7 := hb3.below q4
        clear HS' hb5 tb2 hb3 q4 hbq
        go_wp2
        go_roundw
        case rel => exact ⟨k + 1, _, _, _, by omega, by go_num, rfl, hb7, HG2, tb3, hb6⟩
        case measure => simp [intOf]; omega
    · have hki : ¬ (k : Int) ≤ (s.size : Int) := by omega
      have HF := Lib.hid (HG.out.plus H0.out (HG.out.closed HLS.out (by omega)))
      clear HG
      go_wp2
      go_ret
      exact ⟨⟨_, _, lb, rfl, hbr, HF.out⟩, hb⟩

theorem EndsAt.as {s : ByteArray} {t : TV} {A B : Lang} {u : World} (h : EndsAt s t A u) (e : ∀ x, A x ↔ B x) : EndsAt s t B u := fun a c la hl hb =>
  (h a c la hl hb).mono fun _ _ ⟨⟨a', c', lb, h1, h2, h3⟩, h4⟩ => ⟨⟨a', c', lb, h1, h2, h3.as e⟩, h4⟩

theorem ends_any (s : ByteArray) (hs : s.size ≤ 1000) : ∀ (d : Nat) (t : TV) (A : Lang) (w : World), Den d w (fun b => b < w.heap.size) t A → EndsAt s t A w
  | 0, _, _, _, h => h.elim
  | d + 1, ⟨k, T, ta, tn, tc⟩, A, w, h => by
    rcases h with ⟨hk, hA⟩ | ⟨ts, Ls, hT, hl, hD, h4⟩
    · simp only at hk hA
      subst hk
      exact (ends_set s T ta tn tc w hs).as fun x => (hA x).symm
    · have hlen := hT.1
      simp only at hlen hT
      subst hlen
      have hn := hT.2.1
      have HP : ∀ i (h1 : i < ts.length) (h2 : i < Ls.length) u, Below w.heap.size w u → EndsAt s ts[i] Ls[i] u := fun i h1 h2 u hu =>
        ends_any s hs d _ _ u (Den.keep (fun b hb => hu.block b hb) (fun b hb => Nat.lt_of_lt_of_le hb hu.size) d _ _ (hD i h1 h2))
      rcases h4 with ⟨h1, h2⟩ | ⟨h1, h2⟩ | ⟨L, rfl, h1⟩
      · simp only at h1
        subst h1
        exact (ends_row s T ta tc ts Ls w hs hT hl hn HP).as fun x => (h2 x).symm
      · simp only at h1
        subst h1
        exact (ends_rows s T ta tc ts Ls w hs hT hl hn HP).as fun x => (h2 x).symm
      · obtain ⟨p, rfl⟩ : ∃ p, ts = [p] := List.length_eq_one_iff.1 hl
        have HP1 : ∀ u, Below w.heap.size w u → EndsAt s p L u := fun u hu => HP 0 (by simp) (by simp) u hu
        rcases h1 with ⟨h1, h2⟩ | ⟨h1, h2⟩ | ⟨h1, h2⟩
        all_goals
          simp only at h1
          subst h1
        · exact (ends_star s T ta tc p L w hs hT HP1).as fun x => (h2 x).symm
        · exact (ends_plus s T ta tc p L w hs hT HP1).as fun x => (h2 x).symm
        · exact (ends_maybe s T ta tc p L w hs hT HP1).as fun x => (h2 x).symm

def firstL (n : Nat) : List Bool := (List.replicate (n + 1) false).set 0 true
theorem first_len (n : Nat) : (firstL n).length = n + 1 := by simp [firstL]
theorem at_first (n i : Nat) : At (firstL n) i ↔ i = 0 := by
  unfold At firstL
  rw [List.getElem?_set]
  by_cases h : 0 = i
  · subst h; simp
  · rw [if_neg h, List.getElem?_replicate]
    split <;> simp <;> omega
theorem outs_first {A : Lang} {s : ByteArray} {lb : List Bool} (h : Outs A s.data.toList (firstL s.size) lb) (hl : s.size < lb.length) : (lb[s.size] = true) ↔ A s.data.toList := by
  have h1 : At lb s.size ↔ lb[s.size] = true := by unfold At; rw [List.getElem?_eq_getElem hl]; simp
  rw [← h1, h.2]
  simp only [at_first]
  have hsz : s.data.toList.length = s.size := by simp
  constructor
  · rintro ⟨i, rfl, -, -, h2⟩
    rw [List.drop_zero, Nat.sub_zero, List.take_of_length_le (by omega)] at h2
    exact h2
  · intro h2
    refine ⟨0, rfl, Nat.zero_le _, by omega, ?_⟩
    rw [List.drop_zero, Nat.sub_zero, List.take_of_length_le (by omega)]
    exact h2

set_option maxRecDepth 20000 in
set_option maxHeartbeats 4000000 in
theorem eMatch_any (s : ByteArray) (t : TV) (A : Lang) (d : Nat) (w : World) (hs : s.size ≤ 1000) (hd : Den d w (fun b => b < w.heap.size) t A) :
    Calls Tryz.prog 174 #[.agg (treeC t), .string s] w fun e w' => Tells (A s.data.toList) e ∧ Below w.heap.size w w' := by
  obtain ⟨i0, hi, hi0, hi1, hi2⟩ := info_parts infoBool
  have HI := Lib.hid (And.intro hi0 (And.intro hi1 hi2))
  clear hi0 hi1 hi2
  have hA := (Below.refl w.heap.size w).alloc (Nat.le_refl _) (.cells (treeC t) 207)
  have tb0 := TreeBlk.new w t
  go_enter Tryz.func174, Tryz.ntmps174
  go_wp2_with (at_make; refine Hid.out ?_)
  refine Lib.hid ?_
  refine wpList_make_full _ rfl _ _ 251 rfl w.heap.size 4 i0 (.bool false) 1 Tryz.underlying251 hi HI.out.1 HI.out.2.1 .i64 .i64 _ _ (s.size + 1) rfl rfl (by first | rfl | omega) (by first | rfl | omega) (by rw [HI.out.2.2]; omega) (by unfold maxLen; omega) (by simp) ?_
  intro W hown hgrow
  rw [made_false] at hown
  have own0 : OwnBo W w.heap.size (w.heap.size + 1) (s.size + 1) (List.replicate (s.size + 1) false) := by
    unfold OwnBo
    simpa using hown
  have hgW : Below (w.heap.size + 1) (w.alloc (.cells (treeC t) 207)) W := (Below.refl _ _).grown hgrow (by simp) (by simp)
  have hbW : Below w.heap.size w W := hA.trans (hgW.mono (by omega))
  have tbW : TreeBlk W w.heap.size t := (hgW.block _ (by omega)).trans tb0
  have own1 : OwnBo _ _ _ _ (firstL s.size) := own0.set 0 true
  obtain ⟨g3, e3, c3⟩ := own0.reads (by simp) 0 (by simp)
  obtain rfl : w.heap.size + 1 = g3 := by injection e3 with e3; injection e3
  have f3 := World.ownsRow.frozenAt own0 0
  have hb1 := hbW.setCell (p := ⟨w.heap.size + 1, 0, none⟩) (by show w.heap.size ≤ w.heap.size + 1; omega) (.bool true)
  have tb1 := tbW.kept (xgrown_setCell W (w.heap.size + 1) 0 (.bool true)) (by simp)
  have hE := ends_any s hs d t A (W.setCell ⟨w.heap.size + 1, 0, none⟩ (.bool true)) (Den.keep (fun b hb => hb1.block b hb) (fun b hb => Nat.lt_of_lt_of_le hb hb1.size) d _ _ hd) _ (s.size + 1) (firstL s.size) (first_len _) (own1.reads (first_len _))
  rw [first_len] at hE
  have HE := Lib.hid hE
  clear hown hgrow HI hi hA tb0 hgW own0 own1 tbW hbW hE e3 hd
  generalize hW2 : W.setCell ⟨w.heap.size + 1, 0, none⟩ (.bool true) = W2 at *
  rw [← hW2] at HE tb1 hb1
  clear hW2
  have hsz1 : (0 : Int) < (s.size : Int) + 1 := by omega
  go_wp2_with (first | (with_reducible change wpList Tryz.prog _ _ (_ :: _) _ _; refine wpList_load_tree rfl _ rfl _ rfl tb1 ?_) | (go_at_call 190; refine HE.out.mono ?_; rintro e w2 ⟨⟨a2, c2, lc, rfl, hb2, ho2⟩, q2⟩; refine Hid.out ?_))
  refine Lib.hid ?_
  have hlc : s.size < lc.length := by rw [ho2.1, first_len]; omega
  obtain ⟨g, rfl, c4⟩ := hb2 s.size hlc
  have HO := Lib.hid (outs_first ho2 hlc)
  rw [first_len]
  clear ho2 hb2 HE tb1
  generalize lc[s.size] = x at *
  have hsz2 : (s.size : Int) < (s.size : Int) + 1 := by omega
  go_wp2
  go_ret
  exact ⟨⟨x, rfl, HO.out⟩, hb1.trans (q2.mono hb1.size)⟩

theorem tells_true {A : Prop} {e : Ending} (h : Tells A e) (hA : A) : e = .returned (.bool true) := by
  obtain ⟨b, h1, h2⟩ := h
  rw [h1, h2.2 hA]
theorem tells_false {A : Prop} {e : Ending} (h : Tells A e) (hA : ¬ A) : e = .returned (.bool false) := by
  obtain ⟨b, h1, h2⟩ := h
  rw [h1, Bool.eq_false_iff.2 fun k => hA (h2.1 k)]

set_option maxRecDepth 20000 in
set_option maxHeartbeats 2000000 in
theorem eLike_err (s t : ByteArray) (w : World) (he : errE s.data.toList ≠ 0) :
    Calls Tryz.prog 158 #[.string s, .string t] w fun e w' => e = .returned (.tuple #[.bool false, .int .i64 (errE s.data.toList)]) ∧ Below w.heap.size w w' := by
  have HP : Hid (PErr s w (errE s.data.toList)) := Lib.hid (eParse_err s w he)
  unfold PErr at HP
  have hb : ((errE s.data.toList : Int) != 0) = true := by simpa using he
  generalize errE s.data.toList = E at *
  have kz := zero_tree
  have kn := treeC_size
  clear he
  go_enter Tryz.func158, Tryz.ntmps158
  go_wp2_with (go_at_call 154; refine HP.out.mono ?_; rintro e w1 ⟨⟨tt, rfl⟩, hb1⟩; refine Hid.out ?_)
  refine Lib.hid ?_
  have ks0 := store_last w1 w1.heap.size rfl (noT 0) tt
  have hb2 := hb1.alloc hb1.size (.cells (treeC tt) 207)
  go_wp2
  go_ret2
  exact ⟨rfl, hb2⟩

set_option maxRecDepth 20000 in
set_option maxHeartbeats 2000000 in
theorem eLike_ok (s t : ByteArray) (w : World) (hs : s.size ≤ 64) (A : Lang) (ho : pParse s.data.toList = some A) (ht : t.size ≤ 1000) :
    Calls Tryz.prog 158 #[.string s, .string t] w fun e w' => Tells2 (A t.data.toList) e ∧ Below w.heap.size w w' := by
  have HP := Lib.hid (eParse_ok s w hs A ho)
  have kz := zero_tree
  have kn := treeC_size
  clear ho hs
  go_enter Tryz.func158, Tryz.ntmps158
  go_wp2_with (go_at_call 154; refine HP.out.mono ?_; rintro e w1 ⟨⟨tt, rfl, d, hd⟩, hb1⟩; refine Hid.out ?_)
  refine Lib.hid ?_
  have ks0 := store_last w1 w1.heap.size rfl (noT 0) tt
  have hb2 := hb1.alloc hb1.size (.cells (treeC tt) 207)
  have t2 := TreeBlk.new w1 tt
  have HM := Lib.hid (eMatch_any t tt A d (w1.alloc (.cells (treeC tt) 207)) ht (Den.keep (fun b hb => Below.heap_alloc w1 _ b hb.2) (fun b hb => by have := hb.2; simp; omega) d _ _ hd))
  clear hd HP
  go_wp2_with (first | (with_reducible change wpList Tryz.prog _ _ (_ :: _) _ _; refine wpList_load_tree rfl _ rfl _ rfl t2 ?_) | (go_at_call 174; refine HM.out.mono ?_; rintro e w3 ⟨⟨b, rfl, hb⟩, q3⟩; have HB := Lib.hid hb; clear hb))
  go_ret2
  exact ⟨⟨b, rfl, HB.out⟩, hb2.trans (q3.mono hb2.size)⟩


end Go.Proofs.YtcngifkoopcmeaaGreatDoor
