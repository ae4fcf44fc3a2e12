/-
  slices.DeleteFunc at entries, in a row of the caller's own, with a closure that may make memory; View of package crdt.
-/
import Derived.Test.YtkbonifbnbdbkabC12
import Derived.Laws.CopyRow
namespace Go.Proofs.Ytkbonifbnbdbkab
open Go.RowKit Go.Maps

theorem cellsC_take : ∀ (L : List Ent) (k : Nat), (cellsC L).take (k * 5) = cellsC (L.take k)
  | [], k => by simp [cellsC]
  | x :: r, 0 => by simp [cellsC]
  | x :: r, k + 1 => by
    have e : ∀ (p : Ent) (r : List Ent), cellsC (p :: r) = .string p.k :: .int .i64 p.t :: .int .u16 p.o :: .string p.v :: .int .i64 p.u :: cellsC r := fun _ _ => rfl
    have e0 : (k + 1) * 5 = k * 5 + 1 + 1 + 1 + 1 + 1 := by omega
    rw [List.take_succ_cons, e, e, e0]
    simp only [List.take_succ_cons, cellsC_take r k]
/-- A row's first ones. -/
theorem OwnC.first {w : World} {B g c : Nat} {L : List Ent} (h : OwnC w B (.slice (some ⟨g, 0, none⟩) L.length c) L) (k : Nat) (hk : k ≤ L.length) : OwnC w B (.slice (some ⟨g, 0, none⟩) k c) (L.take k) := by
  unfold OwnC at h ⊢
  rcases h.2 with ⟨h', _⟩ | ⟨g', cap', cur, h', hb, hg, hnc, hcm, hcs, htake⟩
  · simp at h'
  · simp only [Value.slice.injEq, Option.some.injEq, Addr.mk.injEq, and_true, true_and] at h'
    obtain ⟨rfl, rfl⟩ := h'
    have hl : (L.take k).length = k := by rw [List.length_take]; omega
    refine ⟨by rw [hl, ← cellsC_take, List.length_take, cellsC_len]; omega, .inr ⟨g, c, cur, by rw [hl], hb, hg, by omega, hcm, hcs, ?_⟩⟩
    rw [hl, ← cellsC_take, ← htake, List.take_take, Nat.min_eq_left (by omega)]
theorem OwnC.cap {w : World} {B g c : Nat} {L : List Ent} (h : OwnC w B (.slice (some ⟨g, 0, none⟩) L.length c) L) : L.length ≤ c := by
  unfold OwnC at h
  rcases h.2 with ⟨h', _⟩ | ⟨g', cap', cur, h', hb, hg, hnc, hcm, hcs, htake⟩
  · simp at h'
  · simp only [Value.slice.injEq, Option.some.injEq, Addr.mk.injEq, and_true, true_and] at h'
    obtain ⟨rfl, rfl⟩ := h'
    exact hnc
theorem OwnC.frz {w : World} {B g c : Nat} {L : List Ent} (h : OwnC w B (.slice (some ⟨g, 0, none⟩) L.length c) L) (t : Nat) : w.frozen? ⟨g, t, none⟩ = false := by
  unfold OwnC at h
  rcases h.2 with ⟨h', _⟩ | ⟨g', cap', cur, h', hb, hg, hnc, hcm, hcs, htake⟩
  · simp at h'
  · simp only [Value.slice.injEq, Option.some.injEq, Addr.mk.injEq, and_true, true_and] at h'
    obtain ⟨rfl, rfl⟩ := h'
    simp [World.frozen?, hg]
theorem zeroE_one (n : Nat) : ∀ u ∈ (Builtin.zeroCells #[.string ⟨#[]⟩, .int .i64 0, .int .u16 0, .string ⟨#[]⟩, .int .i64 0] n).toList, u.oneCell' = true := fun u hu => by
  have h5 : ∀ j, j < 5 → (#[Value.string ⟨#[]⟩, .int .i64 0, .int .u16 0, .string ⟨#[]⟩, .int .i64 0][j]!).oneCell' = true := fun j hj => by
    rcases (by omega : j = 0 ∨ j = 1 ∨ j = 2 ∨ j = 3 ∨ j = 4) with rfl | rfl | rfl | rfl | rfl <;> rfl
  simp only [Builtin.zeroCells, Array.toList_map, List.mem_map] at hu
  obtain ⟨i, -, rfl⟩ := hu
  exact h5 _ (Nat.mod_lt _ (by decide))
theorem zeroE_len (n : Nat) : (Builtin.zeroCells #[.string ⟨#[]⟩, .int .i64 0, .int .u16 0, .string ⟨#[]⟩, .int .i64 0] n).toList.length = n * 5 := by simp [Builtin.zeroCells]
theorem zeroV_entry (w : World) : (zeroValue 36).run Try.prog w = .ok (.agg #[.string ⟨#[]⟩, .int .i64 0, .int .u16 0, .string ⟨#[]⟩, .int .i64 0]) w := by kernel_rfl
/-- What stands from a place on is made zero. -/
theorem OwnC.clear {w : World} {B g c : Nat} {L : List Ent} (h : OwnC w B (.slice (some ⟨g, 0, none⟩) L.length c) L) (k : Nat) (hk : k < L.length) (cc : Nat) :
    ∃ w', (∀ ty, (Builtin.clear_ #[22] ty #[.slice (some ⟨g, k * 5, none⟩) (L.length - k) cc]).run Try.prog w = .ok (.tuple #[]) w') ∧ OwnC w' B (.slice (some ⟨g, 0, none⟩) k c) (L.take k) ∧ w.grownBy w' (some g) := by
  have hf := h.first k (by omega)
  unfold OwnC at h hf
  rcases h.2 with ⟨h', _⟩ | ⟨g', cap', cur, h', hb, hg, hnc, hcm, hcs, htake⟩
  · simp at h'
  · simp only [Value.slice.injEq, Option.some.injEq, Addr.mk.injEq, and_true, true_and] at h'
    obtain ⟨rfl, rfl⟩ := h'
    obtain ⟨m, hm⟩ : ∃ m, L.length - k = m + 1 := ⟨L.length - k - 1, by omega⟩
    have hst := run_storeCells_at Try.prog g (k * 5) 36 (Builtin.zeroCells #[.string ⟨#[]⟩, .int .i64 0, .int .u16 0, .string ⟨#[]⟩, .int .i64 0] (L.length - k)).toList 0 cur w hg (by rw [zeroE_len, hcs]; omega) (zeroE_one _)
    have hl : (L.take k).length = k := by rw [List.length_take]; omega
    obtain ⟨R, hR0, hR1, hR2⟩ : ∃ R, (storeCells ⟨g, k * 5, none⟩ (Builtin.zeroCells #[.string ⟨#[]⟩, .int .i64 0, .int .u16 0, .string ⟨#[]⟩, .int .i64 0] (m + 1)).toList 0).run Try.prog w = .ok () (w.setRow g R) ∧ R.size = c * 5 ∧ R.toList.take (k * 5) = cellsC (L.take k) := by
      rw [← hm]
      refine ⟨_, hst, ?_, ?_⟩
      · have hz := zeroE_len (L.length - k)
        rw [Array.length_toList] at hz
        simp only [Nat.add_zero, List.size_toArray, List.length_append, List.length_take, List.length_drop, Array.length_toList]
        omega
      · rw [Nat.add_zero, List.append_assoc]
        simp only
        rw [List.take_append_of_le_length (by rw [List.length_take, Array.length_toList]; omega), List.take_take, Nat.min_self, ← cellsC_take, ← htake, List.take_take, Nat.min_eq_left (by omega)]
    clear hst
    refine ⟨w.setRow g R, fun ty => ?_, ?_, ⟨rfl, rfl, rfl, by simp, fun k _ hk => setRow_other w g k _ (fun e => hk (by simp [e]))⟩⟩
    · rw [hm]
      have hu := run_underlying (P := Try.prog) (t := 22) Try.underlying22
      simp [Builtin.clear_, hu, Value.cells, hR0]
    · unfold OwnC
      rw [hl]
      exact ⟨by rw [← cellsC_take, List.length_take, cellsC_len]; omega, .inr ⟨g, c, R, rfl, hb, setRow_heap w g cur _ 36 _ hg, by omega, hcm, hR1, hR2⟩⟩

theorem filter_take_next (p : Ent → Bool) (L : List Ent) (j : Nat) (hj : j < L.length) : (L.take (j + 1)).filter p = (L.take j).filter p ++ (if p L[j] then [L[j]] else []) := by
  rw [List.take_succ_eq_append_getElem hj, List.filter_append]
  simp [List.filter]
  split <;> simp_all
/-- The row while what is deleted is passed over: what stays of the first j, then whatever stood there. -/
def MidC (p : Ent → Bool) (L M : List Ent) (i j : Nat) : Prop := M.length = L.length ∧ i = ((L.take j).filter fun x => !p x).length ∧ M.take i = (L.take j).filter (fun x => !p x) ∧ M.drop j = L.drop j
theorem midC_le {p : Ent → Bool} {L M : List Ent} {i j : Nat} (h : MidC p L M i j) (hj : j ≤ L.length) : i ≤ j := by
  rw [h.2.1]
  exact Nat.le_trans (List.length_filter_le _ _) (by rw [List.length_take]; omega)
theorem midC_at {p : Ent → Bool} {L M : List Ent} {i j : Nat} (h : MidC p L M i j) (hj : j < L.length) (hm : j < M.length) : M[j] = L[j] := by
  have e := congrArg (fun l => l[0]?) h.2.2.2
  simp only [List.getElem?_drop, Nat.add_zero, List.getElem?_eq_getElem hj, List.getElem?_eq_getElem hm, Option.some.injEq] at e
  exact e
theorem midC_gone {p : Ent → Bool} {L M : List Ent} {i j : Nat} (h : MidC p L M i j) (hj : j < L.length) (hp : p L[j] = true) : MidC p L M i (j + 1) := by
  obtain ⟨h0, h1, h2, h3⟩ := h
  have e := filter_take_next (fun x => !p x) L j hj
  simp only [hp, Bool.not_true, Bool.false_eq_true, if_false, List.append_nil] at e
  refine ⟨h0, by rw [e]; exact h1, by rw [e]; exact h2, ?_⟩
  rw [← List.drop_drop, h3, List.drop_drop]
theorem midC_stays {p : Ent → Bool} {L M : List Ent} {i j : Nat} (h : MidC p L M i j) (hj : j < L.length) (hp : p L[j] = false) : MidC p L (M.set i L[j]) (i + 1) (j + 1) := by
  have hij := midC_le h (by omega)
  obtain ⟨h0, h1, h2, h3⟩ := h
  have e := filter_take_next (fun x => !p x) L j hj
  simp only [hp, Bool.not_false, if_true] at e
  refine ⟨by rw [List.length_set]; exact h0, by rw [e, List.length_append, ← h1]; rfl, ?_, ?_⟩
  · rw [e, ← h2, List.take_succ_eq_append_getElem (by rw [List.length_set]; omega), List.take_set_of_le (Nat.le_refl _), List.getElem_set_self]
  · rw [List.drop_set_of_lt (by omega), ← List.drop_drop, h3, List.drop_drop]
theorem midC_end {p : Ent → Bool} {L M : List Ent} {i : Nat} (h : MidC p L M i L.length) : M.take i = L.filter (fun x => !p x) ∧ i = (L.filter fun x => !p x).length := by
  obtain ⟨h0, h1, h2, h3⟩ := h
  rw [List.take_length] at h1 h2
  exact ⟨h2, h1⟩
/-- Ahead of the first that goes all stay. -/
theorem midC_start {p : Ent → Bool} {L : List Ent} {k : Nat} (hk : k < L.length) (hno : ∀ j (hj : j < L.length), j < k → p L[j] = false) (hy : p L[k] = true) : MidC p L L k (k + 1) := by
  have e : (L.take k).filter (fun x => !p x) = L.take k := List.filter_eq_self.2 fun x hx => by
    obtain ⟨j, hj, rfl⟩ := List.getElem_of_mem hx
    rw [List.length_take] at hj
    rw [List.getElem_take, hno j (by omega) (by omega)]
    rfl
  have e2 := filter_take_next (fun x => !p x) L k hk
  simp only [hy, Bool.not_true, Bool.false_eq_true, if_false, List.append_nil] at e2
  refine ⟨rfl, ?_, ?_, rfl⟩
  · rw [e2, e, List.length_take]; omega
  · rw [e2, e]

theorem idxP_uniq {l : List Ent} {p : Ent → Bool} {k k' : Nat} (h : idxP l p k) (h' : idxP l p k') : k' = k := by
  rcases Nat.lt_trichotomy k k' with e | e | e
  · have := h'.2.1 k h.1 e
    rw [h.2.2 h.1] at this
    cases this
  · exact e.symm
  · have := h.2.1 k' h'.1 e
    rw [h'.2.2 h'.1] at this
    cases this
theorem idxP_or (l : List Ent) (p : Ent → Bool) : (∃ k, idxP l p k) ∨ ∀ x ∈ l, p x = false := by
  induction l with
  | nil => right; intro x hx; cases hx
  | cons x l ih =>
    cases hx : p x with
    | true => exact .inl ⟨0, by simp, fun j hj h => absurd h (Nat.not_lt_zero _), fun _ => hx⟩
    | false =>
      rcases ih with ⟨k, h1, h2, h3⟩ | h
      · refine .inl ⟨k + 1, by simpa using h1, fun j hj hjk => ?_, fun hk => h3 h1⟩
        cases j with
        | zero => exact hx
        | succ j => exact h2 j (by simpa using hj) (by omega)
      · refine .inr fun y hy => ?_
        rcases List.mem_cons.1 hy with rfl | hy
        · exact hx
        · exact h y hy

set_option maxRecDepth 100000 in
set_option maxHeartbeats 4000000 in
/-- slices.DeleteFunc at entries. -/
theorem delE_any (g : Nat) (c : Nat) (L : List Ent) (p : Ent → Bool) (f : Nat) (lb : Array Value) (eg : ∀ args w, (callFunc f args).run Try.prog w = .ok (.enter f args) w) (B : Nat) (w : World) (h : OwnC w B (.slice (some ⟨g, 0, none⟩) L.length c) L) (n : Nat) (hn : n = L.length) (hl : n ≤ 256)
    (hp : ∀ W, w.grownBy W (some g) → ∀ x, Calls Try.prog f (#[.agg #[.string x.k, .int .i64 x.t, .int .u16 x.o, .string x.v, .int .i64 x.u]] ++ lb) W fun e w' => e = .returned (.bool (p x)) ∧ Below W.heap.size W w') :
    Calls Try.prog 26 #[.slice (some ⟨g, 0, none⟩) n c, .func (.func f) #[] lb] w fun e w' => e = .returned (.slice (some ⟨g, 0, none⟩) (L.filter fun x => !p x).length c) ∧ OwnC w' B (.slice (some ⟨g, 0, none⟩) (L.filter fun x => !p x).length c) (L.filter fun x => !p x) ∧ w.grownBy w' (some g) := by
  have hE : EntsAt w (some ⟨g, 0, none⟩) L := by
    obtain ⟨a', c', e, -, -, he⟩ := h.form
    simp only [Value.slice.injEq, true_and] at e
    obtain ⟨rfl, rfl⟩ := e
    exact he
  have hgw : g < w.heap.size := by
    obtain ⟨a', c', e, -, hq, -⟩ := h.form
    simp only [Value.slice.injEq, true_and] at e
    obtain ⟨rfl, rfl⟩ := e
    exact (hq _ rfl).2.1
  have hIdx := idxE_any (some ⟨g, 0, none⟩) c L p f lb eg w hE n hn hl (fun W hb x _ => hp W (gOfC hb _) x)
  have HH := Lib.hid h
  have HN := Lib.hid hn
  have HP := Lib.hid hp
  have hcap : n ≤ c := by rw [hn]; exact h.cap
  have HC := Lib.hid hcap
  have hBg : B ≤ g := by
    obtain ⟨a', c', e, -, hq, -⟩ := h.form
    simp only [Value.slice.injEq, true_and] at e
    obtain ⟨rfl, rfl⟩ := e
    exact (hq _ rfl).1
  clear h hn hp hE hcap
  rcases idxP_or L p with ⟨k, hk⟩ | hall
  · have HI : Hid (Calls Try.prog 36 #[.slice (some ⟨g, 0, none⟩) n c, .func (.func f) #[] lb] w fun e w' => e = .returned (.int .i64 k) ∧ Below w.heap.size w w') := Lib.hid (hIdx.mono fun e w' ⟨hor, q⟩ => ⟨by
      rcases hor with ⟨k', rfl, hk'⟩ | ⟨-, hno⟩
      · rw [idxP_uniq hk hk']
      · have := hno _ (List.getElem_mem hk.1)
        rw [hk.2.2 hk.1] at this
        exact Bool.noConfusion this, q⟩)
    have HK := Lib.hid hk
    clear hIdx
    go_enter Try.func26, Try.ntmps26
    go_wp2_with (go_at_call 36; refine HI.out.mono ?_; rintro e w1 ⟨rfl, q1⟩; have HQ1 := Lib.hid q1; clear q1; refine Hid.out ?_)
    refine Lib.hid ?_
    have hk1 : ((k : Int) == -1) = false := by rw [beq_eq_false_iff_ne]; omega
    have hkn : k < n := by have h1 := hk.1; have h2 := HN.out; omega
    clear hk HI
    go_wp2
    go_loopw [5, 6] (fun vi vj wr => ∃ (i j : Nat) (M : List Ent), i < j ∧ j ≤ n ∧ vi = .int .i64 i ∧ vj = .int .i64 j ∧ Hid (MidC p L M i j ∧ OwnC wr B (.slice (some ⟨g, 0, none⟩) n c) M ∧ w.grownBy wr (some g))) (fun _ vj _ => n - (intOf vj).toNat)
    case atStart => exact ⟨k, k + 1, L, by omega, by omega, rfl, by go_num, Lib.hid ⟨midC_start HK.out.1 HK.out.2.1 (HK.out.2.2 HK.out.1), by have := HH.out.on HQ1.out; rw [HN.out]; exact this, gOfC HQ1.out _⟩⟩
    case round =>
      obtain ⟨i, j, M, hij, hjn, rfl, rfl, HM⟩ := hrel
      by_cases hlt : j < n
      · have hjl : (j : Int) < (n : Int) := by omega
        have hjL : j < L.length := by have := HN.out; omega
        have hjM : j < M.length := by have := HM.out.1.1; omega
        have hiM : i < M.length := by omega
        have hMn : M.length = n := by have := HM.out.1.1; have := HN.out; omega
        have hown := HM.out.2.1
        rw [← hMn] at hown
        obtain ⟨a', c', e', -, hq', he⟩ := hown.form
        simp only [Value.slice.injEq, true_and] at e'
        obtain ⟨rfl, rfl⟩ := e'
        obtain ⟨b, o, e2, hb, c0, c1, c2, c3, c4⟩ := he.cells j hjM
        simp only [Option.some.injEq, Addr.mk.injEq, and_true] at e2
        obtain ⟨rfl, rfl⟩ := e2
        have ej := midC_at HM.out.1 hjL hjM
        rw [ej] at c0 c1 c2 c3 c4
        simp only [Nat.zero_add] at c0 c1 c2 c3 c4
        have HS1 : Hid (p L[j] = true → MidC p L M i (j + 1)) := Lib.hid (fun h => midC_gone HM.out.1 hjL h)
        have HS2 : Hid (p L[j] = false → MidC p L (M.set i L[j]) (i + 1) (j + 1)) := Lib.hid (fun h => midC_stays HM.out.1 hjL h)
        have HMn := Lib.hid hMn
        have HOW := Lib.hid (And.intro hown HM.out.2.2)
        have hgb := (hq' _ rfl).2.1
        have hiM' := Lib.hid hiM
        clear hq' he ej hown HM hjM
        generalize L[j] = x at *
        clear hjL
        have d2 := (Below.refl wr.heap.size wr).alloc (Nat.le_refl _) (.cells #[.string x.k, .int .i64 x.t, .int .u16 x.o, .string x.v, .int .i64 x.u] 36)
        have HCc := Lib.hid (HP.out _ (HOW.out.2.andThen (gOfC d2 (some g)) (fun j hj => .inr hj)) x)
        have HD2 := Lib.hid d2
        have HB2 := Lib.hid (EBlk.new wr x)
        clear d2 hMn hiM
        generalize p x = q at *
        obtain ⟨kx, tx, ox, vx, ux⟩ := x
        dsimp only at c0 c1 c2 c3 c4 HCc HB2 HD2
        go_wp2_with (go_at_fn f; refine HCc.out.mono ?_; rintro e w2 ⟨rfl, q2⟩; refine Hid.out ?_)
        refine Lib.hid ?_
        have hD : Below wr.heap.size wr w2 := HD2.out.trans (q2.mono HD2.out.size)
        have bx := HB2.out.on q2
        have ow2 := HOW.out.1.on hD
        have gr2 := HOW.out.2.andThen (gOfC hD (some g)) (fun j hj => .inr hj)
        clear c0 c1 c2 c3 c4 HCc HB2 HD2 q2 HOW
        cases q with
        | true =>
          have HF := Lib.hid (And.intro (HS1.out (by simp)) (And.intro ow2 gr2))
          clear hD bx ow2 gr2 HS1 HS2
          go_wp2
          go_roundw
          case rel => exact ⟨i, j + 1, M, by omega, by omega, rfl, by go_num, Lib.hid ⟨HF.out.1, by have := HF.out.2.1; rw [HMn.out] at this; exact this, HF.out.2.2⟩⟩
          case measure => simp [intOf]; omega
        | false =>
          have hil : (i : Int) < (n : Int) := by omega
          have hi := hiM'.out
          obtain ⟨a', c', e', -, -, he⟩ := ow2.form
          simp only [Value.slice.injEq, true_and] at e'
          obtain ⟨rfl, rfl⟩ := e'
          obtain ⟨b, o, e2, hb, c0, c1, c2, c3, c4⟩ := he.cells i hi
          simp only [Option.some.injEq, Addr.mk.injEq, and_true] at e2
          obtain ⟨rfl, rfl⟩ := e2
          simp only [Nat.zero_add] at c0 c1 c2 c3 c4
          have fz := fun t => ow2.frz t
          have f0 := fz (i * 5)
          have f1 := fz (i * 5 + 1)
          have f2 := fz (i * 5 + 2)
          have f3 := fz (i * 5 + 3)
          have f4 := fz (i * 5 + 4)
          obtain ⟨op, gp⟩ := ow2.put i hi ⟨kx, tx, ox, vx, ux⟩
          have k0 := bx.c0
          have k1 := bx.c1
          have k2 := bx.c2
          have k3 := bx.c3
          have k4 := bx.c4
          have HF := Lib.hid (And.intro (HS2.out (by simp)) (And.intro op (gr2.andThen gp (fun j hj => .inr hj))))
          generalize M[i] = y at *
          clear he fz op gp bx ow2 gr2 hD HS1 HS2 hi
          unfold stRow at HF
          dsimp only at HF k0 k1 k2 k3 k4
          go_wp2
          go_roundw
          case rel => exact ⟨i + 1, j + 1, _, by omega, by omega, by go_num, by go_num, Lib.hid ⟨HF.out.1, by have := HF.out.2.1; rw [HMn.out] at this; exact this, HF.out.2.2⟩⟩
          case measure => simp [intOf]; omega
      · have hjl : ¬ (j : Int) < (n : Int) := by omega
        obtain rfl : j = n := by omega
        have hMn : M.length = j := by have := HM.out.1.1; have := HN.out; omega
        have hown := HM.out.2.1
        rw [← hMn] at hown
        obtain ⟨w', hcl, ho', hg'⟩ := hown.clear i (by omega) (c - i)
        rw [hMn] at hcl
        have hmid := HM.out.1
        rw [HN.out] at hmid
        obtain ⟨h1, h2⟩ := midC_end hmid
        rw [h1] at ho'
        have HF := Lib.hid (And.intro ho' (HM.out.2.2.andThen hg' (fun j hj => .inr hj)))
        have HI2 := Lib.hid h2
        have hcc := HC.out
        have hic : i ≤ j := by omega
        have hne : ¬ c = i := by omega
        have hiI : (i : Int) ≤ (j : Int) := by omega
        have hjc : (j : Int) ≤ (c : Int) := by omega
        clear hown hmid h1 h2 ho' hg' hMn HM
        go_wp2
        go_ret
        rw [← HI2.out]
        exact ⟨rfl, HF.out.1, HF.out.2⟩
  · have HI : Hid (Calls Try.prog 36 #[.slice (some ⟨g, 0, none⟩) n c, .func (.func f) #[] lb] w fun e w' => e = .returned (.int .i64 (-1)) ∧ Below w.heap.size w w') := Lib.hid (hIdx.mono fun e w' ⟨hor, q⟩ => ⟨by
      rcases hor with ⟨k', rfl, hk'⟩ | ⟨rfl, -⟩
      · have := hall _ (List.getElem_mem hk'.1)
        rw [hk'.2.2 hk'.1] at this
        cases this
      · rfl, q⟩)
    have hf : (L.filter fun x => !p x) = L := List.filter_eq_self.2 fun x hx => by rw [hall x hx]; rfl
    have HF := Lib.hid hf
    clear hall hf hIdx
    go_enter Try.func26, Try.ntmps26
    go_wp2_with (go_at_call 36; refine HI.out.mono ?_; rintro e w1 ⟨rfl, q1⟩; have HQ1 := Lib.hid q1; clear q1; refine Hid.out ?_)
    refine Lib.hid ?_
    go_wp2
    go_ret
    rw [HF.out]
    exact ⟨by rw [HN.out]; rfl, by have := HH.out.on HQ1.out; exact this, gOfC HQ1.out _⟩
set_option maxHeartbeats 1000000 in
theorem delE_none (c : Nat) (f : Nat) (lb : Array Value) (eg : ∀ args w, (callFunc f args).run Try.prog w = .ok (.enter f args) w) (w : World) :
    Calls Try.prog 26 #[.slice none 0 c, .func (.func f) #[] lb] w fun e w' => e = .returned (.slice none 0 c) ∧ Below w.heap.size w w' := by
  have hIdx := idxE_any none c [] (fun _ => true) f lb eg w (fun h => absurd h (by simp)) 0 rfl (by omega) (fun W hb x hx => by cases hx)
  have HI : Hid (Calls Try.prog 36 #[.slice none 0 c, .func (.func f) #[] lb] w fun e w' => e = .returned (.int .i64 (-1)) ∧ Below w.heap.size w w') := Lib.hid (hIdx.mono fun e w' ⟨hor, q⟩ => ⟨by
      rcases hor with ⟨k', rfl, hk'⟩ | ⟨rfl, -⟩
      · exact absurd hk'.1 (by simp)
      · rfl, q⟩)
  clear hIdx
  go_enter Try.func26, Try.ntmps26
  go_wp2_with (go_at_call 36; refine HI.out.mono ?_; rintro e w1 ⟨rfl, q1⟩; have HQ1 := Lib.hid q1; clear q1; refine Hid.out ?_)
  refine Lib.hid ?_
  go_wp2
  go_ret
  exact ⟨rfl, HQ1.out⟩
set_option maxHeartbeats 2000000 in
theorem cView_any (sb bm : Nat) (S : List Ent) (now : Int) (w : World) (h : CAt w sb bm S) :
    Calls Try.prog 13 #[.pointer (some ⟨sb, 0, none⟩), .int .i64 now] w fun e w' => ∃ v, e = .returned v ∧ OwnC w' w.heap.size v (viewC S now) ∧ Below w.heap.size w w' := by
  have d1 := (Below.refl w.heap.size w).alloc (Nat.le_refl _) (.cells #[.int .i64 now] 3)
  have hcl := cList_any sb bm S _ (h.on d1)
  have b1 : (w.alloc (.cells #[.int .i64 now] 3)).cell? ⟨w.heap.size, 0, none⟩ = some (.int .i64 now) := cellE (newE w _)
  have s1 : (w.alloc (.cells #[.int .i64 now] 3)).heap.size = w.heap.size + 1 := by simp
  have HL := Lib.hid hcl
  have HB := Lib.hid b1
  have HD := Lib.hid d1
  have HS := Lib.hid s1
  have HN := Lib.hid h.2.2.2
  have eg : ∀ args w, (callFunc 27 args).run Try.prog w = .ok (.enter 27 args) w := enters_of Try.func27 (by kernel_rfl) rfl
  clear h d1 hcl b1 s1
  go_enter Try.func13, Try.ntmps13
  go_wp2_with (go_at_call 23; refine HL.out.mono ?_; rintro e w1 ⟨v, rfl, ho, q1⟩; refine Hid.out ?_)
  refine Lib.hid ?_
  have hD1 : Below w.heap.size w w1 := HD.out.trans (q1.mono HD.out.size)
  have hB1 : w1.cell? ⟨w.heap.size, 0, none⟩ = some (.int .i64 now) := (q1.cell (p := ⟨w.heap.size, 0, none⟩) (by have := HS.out; show w.heap.size < _; omega)).trans HB.out
  have HQ := Lib.hid hD1
  have HB1 := Lib.hid hB1
  have hof := ho
  rcases ho.2 with ⟨rfl, h0⟩ | ⟨g, cap, cur, rfl, hg0, hg1, -, -, -, -⟩
  · have hS0 : S = [] := List.eq_nil_of_length_eq_zero h0
    have HDl := Lib.hid (delE_none 0 27 #[.pointer (some ⟨w.heap.size, 0, none⟩)] eg w1)
    have HO : Hid (OwnC w1 w.heap.size (.slice none 0 0) (viewC S now)) := Lib.hid (by subst hS0; exact World.ownsRow_nil _ _ _ _)
    clear ho hof h0 q1 hD1 hB1 HL HB HD eg
    go_wp2_with (go_at_call 26; refine HDl.out.mono ?_; rintro e w2 ⟨rfl, q2⟩; refine Hid.out ?_)
    refine Lib.hid ?_
    have HF := Lib.hid (And.intro (HO.out.on q2) (HQ.out.trans (q2.mono HQ.out.size)))
    clear q2 HO HQ
    go_wp2
    go_ret
    exact ⟨_, rfl, HF.out.1, HF.out.2⟩
  · have hlt : w.heap.size < g := by have := HS.out; omega
    have hgl : g < w1.heap.size := ltE hg1
    have HDl := Lib.hid (delE_any g cap S (fun x => !decide (now < x.u)) 27 #[.pointer (some ⟨w.heap.size, 0, none⟩)] eg (w.heap.size + 1) w1 (by have := HS.out; rw [← this]; exact hof) S.length rfl HN.out (fun W hW x => cView1_any x w.heap.size now W (by
      rw [World.cell?, hW.block w.heap.size (by omega) (by simp; omega)]
      exact hB1)))
    have hfl : (S.filter fun x => !!decide (now < x.u)) = viewC S now := by simp [viewC]
    rw [hfl] at HDl
    have HG := Lib.hid (And.intro hlt hgl)
    generalize S.length = n at *
    clear ho hof q1 hD1 hB1 HL HB HD eg hg0 hg1 hfl hlt hgl
    go_wp2_with (go_at_call 26; refine HDl.out.mono ?_; rintro e w2 ⟨rfl, o2, g2⟩; refine Hid.out ?_)
    refine Lib.hid ?_
    have HF := Lib.hid (And.intro (o2.base (show w.heap.size ≤ w.heap.size + 1 by omega)) (HQ.out.grown g2 HQ.out.size (fun k hk => by cases hk; exact Nat.le_of_lt HG.out.1)))
    clear o2 g2 HQ
    go_wp2
    go_ret
    exact ⟨_, rfl, HF.out.1, HF.out.2⟩

end Go.Proofs.Ytkbonifbnbdbkab
