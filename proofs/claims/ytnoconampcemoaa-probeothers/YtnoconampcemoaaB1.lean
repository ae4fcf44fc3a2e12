/-
  Tables in memory: their cells, loads of places, stores into places. New of package member.
-/
import Derived.Test.YtnoconampcemoaaB0
import Derived.Deep.WholeRow
import Derived.Deep.MidRow
import Derived.BigQuiet
namespace Go.Proofs.Ytnoconampcemoaa
open Go Go.RowKit

theorem flat4_len (g : Nat → List Value) (hg : ∀ k, (g k).length = 4) : ∀ (c a : Nat), ((List.range' a c).flatMap g).length = c * 4
  | 0, _ => rfl
  | c + 1, a => by
    rw [List.range'_succ, List.flatMap_cons, List.length_append, hg, flat4_len g hg c (a + 1)]
    omega
theorem flat4_get (g : Nat → List Value) (hg : ∀ k, (g k).length = 4) : ∀ (c a k j : Nat), k < c → j < 4 → ((List.range' a c).flatMap g)[k * 4 + j]? = (g (a + k))[j]?
  | 0, _, _, _, hk, _ => by omega
  | c + 1, a, 0, j, _, hj => by
    rw [List.range'_succ, List.flatMap_cons, List.getElem?_append_left (by rw [hg]; omega)]
    simp
  | c + 1, a, k + 1, j, hk, hj => by
    rw [List.range'_succ, List.flatMap_cons, List.getElem?_append_right (by rw [hg]; omega), hg, show (k + 1) * 4 + j - 4 = k * 4 + j by omega,
      flat4_get g hg c (a + 1) k j (by omega) hj, show a + 1 + k = a + (k + 1) by omega]
/-- The cells of a place. -/
def plL : Option Mem → List Value
  | none => [.int .u16 0, .int .u8 0, .int .i64 0, .bool false]
  | some m => [.int .u16 m.n, .int .u8 m.s, .int .i64 m.i, .bool true]
theorem plL_len (o : Option Mem) : (plL o).length = 4 := by cases o <;> rfl
def plC (o : Option Mem) : Array Value := ⟨plL o⟩
def arrL (f : Nat → Option Mem) : List Value := (List.range' 0 64).flatMap (fun k => plL (f k))
def arrC (f : Nat → Option Mem) : Array Value := ⟨arrL f⟩
def tabL (T : Tb) : List Value := arrL T.f ++ [.int .u16 (T.s : Int)]
def tabC (T : Tb) : Array Value := ⟨tabL T⟩
def noT : Tb := ⟨fun _ => none, 0⟩
theorem arrL_len (f : Nat → Option Mem) : (arrL f).length = 256 := flat4_len _ (fun _ => plL_len _) 64 0
theorem tabL_len (T : Tb) : (tabL T).length = 257 := by simp [tabL, arrL_len]
theorem tabC_size (T : Tb) : (tabC T).size = 257 := tabL_len T
theorem arrL_get (f : Nat → Option Mem) {k j : Nat} (hk : k < 64) (hj : j < 4) : (arrL f)[k * 4 + j]? = (plL (f k))[j]? := by
  unfold arrL
  rw [flat4_get _ (fun _ => plL_len _) 64 0 k j hk hj, Nat.zero_add]
theorem tabL_get (T : Tb) {k j : Nat} (hk : k < 64) (hj : j < 4) : (tabL T)[k * 4 + j]? = (plL (T.f k))[j]? := by
  unfold tabL
  rw [List.getElem?_append_left (by rw [arrL_len]; omega), arrL_get _ hk hj]
theorem tabL_self (T : Tb) : (tabL T)[256]? = some (.int .u16 (T.s : Int)) := by
  unfold tabL
  rw [List.getElem?_append_right (by rw [arrL_len]; omega), arrL_len]
  rfl
theorem tabL_arr (T : Tb) {j : Nat} (hj : j < 256) : (tabL T)[j]? = (arrL T.f)[j]? := by
  unfold tabL
  rw [List.getElem?_append_left (by rw [arrL_len]; omega)]
theorem tabC_get (T : Tb) (j : Nat) : (tabC T)[j]? = (tabL T)[j]? := by simp [tabC]
theorem tabL_one (T : Tb) {v : Value} (h : v ∈ tabL T) : v.oneCell' = true := by
  unfold tabL at h
  rcases List.mem_append.1 h with h | h
  · unfold arrL at h
    obtain ⟨k, -, hk⟩ := List.mem_flatMap.1 h
    cases hf : T.f k with
    | none => rw [hf] at hk; simp only [plL, List.mem_cons, List.not_mem_nil, or_false] at hk; rcases hk with rfl | rfl | rfl | rfl <;> rfl
    | some m => rw [hf] at hk; simp only [plL, List.mem_cons, List.not_mem_nil, or_false] at hk; rcases hk with rfl | rfl | rfl | rfl <;> rfl
  · obtain rfl := List.mem_singleton.1 h
    rfl
theorem tabC_one (T : Tb) : (tabC T).all (·.oneCell') = true := Array.all_eq_true_iff_forall_mem.2 fun v hv => tabL_one T (by simpa [tabC] using hv)
/-- Two tables whose cells are the same. -/
theorem tab_ext {L : List Value} {T : Tb} (hl : L.length = 257) (h : ∀ k j, k < 64 → j < 4 → L[k * 4 + j]? = (plL (T.f k))[j]?) (hs : L[256]? = some (.int .u16 (T.s : Int))) : L = tabL T := by
  refine List.ext_getElem? fun i => ?_
  by_cases h1 : i < 256
  · have e : i = i / 4 * 4 + i % 4 := by omega
    rw [e, h _ _ (by omega) (by omega), tabL_get _ (by omega) (by omega)]
  · by_cases h2 : i = 256
    · subst h2; rw [hs, tabL_self]
    · rw [List.getElem?_eq_none (by omega), List.getElem?_eq_none (by rw [tabL_len]; omega)]
/-- A place with a member stored into it. -/
theorem tabL_put (T : Tb) (m : Mem) (k : Nat) (hk : k < 64) :
    ((((tabL T).set (k * 4) (.int .u16 m.n)).set (k * 4 + 1) (.int .u8 m.s)).set (k * 4 + 2) (.int .i64 m.i)).set (k * 4 + 3) (.bool true) = tabL ⟨fun j => if j = k then some m else T.f j, T.s⟩ := by
  refine tab_ext (by simp [tabL_len]) (fun i j hi hj => ?_) ?_
  · simp only [List.getElem?_set, List.length_set, tabL_len]
    by_cases e : i = k
    · subst e
      simp only [if_true]
      match j, hj with
      | 0, _ => rw [if_neg (by omega), if_neg (by omega), if_neg (by omega), if_pos (by omega), if_pos (by omega)]; rfl
      | 1, _ => rw [if_neg (by omega), if_neg (by omega), if_pos (by omega), if_pos (by omega)]; rfl
      | 2, _ => rw [if_neg (by omega), if_pos (by omega), if_pos (by omega)]; rfl
      | 3, _ => rw [if_pos (by omega), if_pos (by omega)]; rfl
    · rw [if_neg (by omega), if_neg (by omega), if_neg (by omega), if_neg (by omega), tabL_get _ hi hj]
      simp only [if_neg e]
  · simp only [List.getElem?_set, List.length_set, tabL_len]
    rw [if_neg (by omega), if_neg (by omega), if_neg (by omega), if_neg (by omega), tabL_self]
theorem tabC_self (T : Tb) (n : Nat) : (tabC T).setIfInBounds 256 (.int .u16 (n : Int)) = tabC ⟨T.f, n⟩ := by
  unfold tabC
  simp only [List.setIfInBounds_toArray]
  congr 1
  unfold tabL
  rw [List.set_append, if_neg (by rw [arrL_len]; omega), arrL_len]
  rfl
theorem zero_tab (w : World) : (zeroValue 100).run Try.prog w = .ok (.agg (tabC noT)) w := by kernel_rfl
theorem size_tab (T : Tb) : (Try.prog.info? 100).map (·.size) = some (tabC T).size := by rw [tabC_size]; kernel_rfl

/-- A table in a block. -/
def TabBlk (w : World) (b : Nat) (T : Tb) : Prop := w.heap[b]? = some (.cells (tabC T) 100 (0, 0))
theorem TabBlk.lt {w : World} {b : Nat} {T : Tb} (h : TabBlk w b T) : b < w.heap.size := ltE h
theorem TabBlk.cell {w : World} {b : Nat} {T : Tb} (h : TabBlk w b T) (j : Nat) : w.cell? ⟨b, j, none⟩ = (tabL T)[j]? := by rw [cellE h, tabC_get]
theorem TabBlk.self {w : World} {b : Nat} {T : Tb} (h : TabBlk w b T) : w.cell? ⟨b, 256, none⟩ = some (.int .u16 (T.s : Int)) := by rw [h.cell, tabL_self]
theorem TabBlk.at {w : World} {b : Nat} {T : Tb} (h : TabBlk w b T) {k j : Nat} (hk : k < 64) (hj : j < 4) : w.cell? ⟨b, k * 4 + j, none⟩ = (plL (T.f k))[j]? := by rw [h.cell, tabL_get T hk hj]
theorem TabBlk.f {w : World} {b : Nat} {T : Tb} (h : TabBlk w b T) (i : Nat) : w.frozen? ⟨b, i, none⟩ = false := by
  unfold TabBlk at h; simp [World.frozen?, h]
theorem TabBlk.of {w w' : World} {b : Nat} {T : Tb} (h : TabBlk w b T) (e : w'.heap[b]? = w.heap[b]?) : TabBlk w' b T := e.trans h
theorem TabBlk.below {w w' : World} {b N : Nat} {T : Tb} (h : TabBlk w b T) (hb : Below N w w') (hN : b < N) : TabBlk w' b T := (hb.block b hN).trans h
theorem TabBlk.on {w w' : World} {b : Nat} {T : Tb} (h : TabBlk w b T) (hb : Below w.heap.size w w') : TabBlk w' b T := h.below hb h.lt
theorem TabBlk.kept {w w' : World} {b : Nat} {T : Tb} {r : Option Nat} (h : TabBlk w b T) (hg : w.grownBy w' r) (hr : some b ≠ r) : TabBlk w' b T := (hg.block b h.lt hr).trans h
theorem TabBlk.new (w : World) (T : Tb) : TabBlk (w.alloc (.cells (tabC T) 100)) w.heap.size T := newE w _
/-- A member stored into its place. -/
def stP (w : World) (b k : Nat) (m : Mem) : World := (((w.setCell ⟨b, k * 4, none⟩ (.int .u16 m.n)).setCell ⟨b, k * 4 + 1, none⟩ (.int .u8 m.s)).setCell ⟨b, k * 4 + 2, none⟩ (.int .i64 m.i)).setCell ⟨b, k * 4 + 3, none⟩ (.bool true)
theorem TabBlk.put {w : World} {b : Nat} {T : Tb} (h : TabBlk w b T) (k : Nat) (hk : k < 64) (m : Mem) : TabBlk (stP w b k m) b ⟨fun j => if j = k then some m else T.f j, T.s⟩ := by
  have e := tabL_put T m k hk
  have e2 : ((((tabC T).setIfInBounds (k * 4) (.int .u16 m.n)).setIfInBounds (k * 4 + 1) (.int .u8 m.s)).setIfInBounds (k * 4 + 2) (.int .i64 m.i)).setIfInBounds (k * 4 + 3) (.bool true) = tabC ⟨fun j => if j = k then some m else T.f j, T.s⟩ := by
    unfold tabC
    simp only [List.setIfInBounds_toArray, e]
  unfold TabBlk at h ⊢
  unfold stP
  simp [World.setCell, Array.getElem?_modify, h, e2]
theorem stP_grown (w : World) (b k : Nat) (m : Mem) : w.grownBy (stP w b k m) (some b) :=
  (((grownBy_setCell w b _ _).trans (grownBy_setCell _ b _ _)).trans (grownBy_setCell _ b _ _)).trans (grownBy_setCell _ b _ _)
theorem TabBlk.load {w : World} {b : Nat} {T : Tb} (h : TabBlk w b T) : (loadVar 100 ⟨b, 0, none⟩).run Try.prog w = .ok (.agg (tabC T)) w :=
  run_loadVar_row w b 100 100 (tabC T) (0, 0) _ h Try.underlying100 rfl (size_tab T)
theorem wpList_load_tab {ops : Array Oper} {rest : List Oper} {o : Oper} {a : Act} {w : World} {Q : Exit → Act → World → Prop} (hgd : o.guard = none) (x : Operand) (ho : o.op = .load 100 x) (b : Nat) (hx : a.eval x = .pointer (some ⟨b, 0, none⟩)) {T : Tb} (h : TabBlk w b T)
    (hk : wpList Try.prog ops Q rest (a.put o.dst (.agg (tabC T))) w) : wpList Try.prog ops Q (o :: rest) a w := by
  refine wpList_plain hgd fun _ hK => ?_
  unfold Oper.wp execOp
  simp only [ho, hx, Instr.loadAt, Instr.sureAddr, Sem.run_bind, Sem.run_pure, Result.andThen_ok, h.load]
  exact hK _ _ hk
theorem wpList_load_arr {ops : Array Oper} {rest : List Oper} {o : Oper} {a : Act} {w : World} {Q : Exit → Act → World → Prop} (hgd : o.guard = none) (x : Operand) (ho : o.op = .load 98 x) (b : Nat) (hx : a.eval x = .pointer (some ⟨b, 0, none⟩)) {T : Tb} (h : TabBlk w b T)
    (hk : wpList Try.prog ops Q rest (a.put o.dst (.agg (arrC T.f))) w) : wpList Try.prog ops Q (o :: rest) a w :=
  wpList_load_mid hgd 98 x ho b 0 hx (arrL T.f) _ (fun j v hv => by
    have hj : j < 256 := by have := (List.getElem?_eq_some_iff.1 hv).1; rwa [arrL_len] at this
    rw [Nat.zero_add, h.cell, tabL_arr T hj]; exact hv) Try.underlying98 rfl (by rw [arrL_len]; kernel_rfl) hk
theorem run_index_place (f : Nat → Option Mem) (k : Nat) (hk : k < 64) (w : World) : (Instr.index 98 (.agg (arrC f)) (.int .i64 (k : Int))).run Try.prog w = .ok (.agg (plC (f k))) w := by
  have h1 : ((0 : Int) ≤ (k : Int) ∧ (k : Int) < ((64 : Nat) : Int)) := ⟨by omega, by omega⟩
  have h2 : (arrC f).extract (k * 4) (k * 4 + 4) = plC (f k) := by
    refine Array.ext_getElem? fun j => ?_
    rw [Array.getElem?_extract]
    have hz : (arrC f).size = 256 := arrL_len f
    by_cases hj : j < 4
    · rw [if_pos (by rw [hz]; omega)]
      have := arrL_get f hk hj
      simpa [arrC, plC] using this
    · rw [if_neg (by omega)]
      have := plL_len (f k)
      simp [plC, this]; omega
  unfold Instr.index
  simp only [asIntOf, Sem.run_bind, Sem.run_pure, Result.andThen_ok, run_underlying Try.underlying98]
  rw [if_pos h1]
  have h3 : (isAgg 97).run Try.prog w = .ok true w := by kernel_rfl
  have h4 : (Go.sizeOf 97).run Try.prog w = .ok 4 w := by kernel_rfl
  have h5 : Int.toNat (k : Int) = k := by omega
  simp only [part, Sem.run_bind, Sem.run_pure, Result.andThen_ok, h3, h4, h5, if_true, h2]

set_option maxRecDepth 20000 in
set_option maxHeartbeats 1000000 in
theorem bNew_any (n : Nat) (w : World) : Calls Try.prog 19 #[.int .u16 (n : Int)] w fun e w' => e = .returned (.pointer (some ⟨w.heap.size, 0, none⟩)) ∧ TabBlk w' w.heap.size (newB (n % 64)) ∧ Below w.heap.size w w' := by
  have kz := zero_tab
  have kn := tabC_size noT
  obtain ⟨k, hk, hk2⟩ : ∃ k : Nat, (n : Int) % 64 = (k : Int) ∧ n % 64 = k := ⟨n % 64, by omega, rfl⟩
  have hset := tabC_self noT k
  have hlt : k < 64 := by omega
  have hlt2 : (k : Int) < 64 := by omega
  rw [hk2]
  have HK := Lib.hid hk
  go_enter Try.func19, Try.ntmps19
  go_wp2_with fail
  have t0 := TabBlk.new w ⟨noT.f, k⟩
  have hB0 := (Below.refl w.heap.size w).alloc (Nat.le_refl _) (.cells (tabC ⟨noT.f, k⟩) 100)
  generalize w.alloc (.cells (tabC ⟨noT.f, k⟩) 100) = W at *
  have HT1 := Lib.hid (TabBlk.put t0 k hlt ⟨(k : Int), 0, 0⟩)
  have HB := Lib.hid hB0
  clear hB0
  have f0 := t0.f
  have c0 := t0.at (j := 0) hlt (by decide)
  have c1 := t0.at (j := 1) hlt (by decide)
  have c2 := t0.at (j := 2) hlt (by decide)
  have c3 := t0.at (j := 3) hlt (by decide)
  simp only [noT, plL, Nat.add_zero, List.getElem?_cons_zero, List.getElem?_cons_succ] at c0 c1 c2 c3
  clear hset kz kn
  refine wp_region_any (by kernel_rfl) ?_
  change wpAny _ _ _ _ _ _ _ (World.drew _)
  have hS : (fun w' : World => ∃ T, TabBlk w' w.heap.size T ∧ T.s = k) W.drew := ⟨_, t0, rfl⟩
  refine wpAny_of_held (S := fun w' => ∃ T, TabBlk w' w.heap.size T ∧ T.s = k) _ _ _ _ ?_
  refine wpAnyH_takeE (i := 0) (some 8) (v := ?_) rfl rfl (by as_aux_lemma => kernel_rfl) (by as_aux_lemma => kernel_rfl) (by as_aux_lemma => kernel_rfl) (fun _ _ _ h => h) (Or.inl ⟨by kernel_rfl, ?_⟩) hS ?_
  rotate_left
  · intro w hSw; obtain ⟨T, hT, hTs⟩ := hSw; have a0 := hT.self; rw [hTs] at a0; clear hT hTs; go_simp
    first | done | with_reducible rfl
  refine wpAnyH_takeE (i := 1) (some 9) (v := ?_) rfl rfl (by as_aux_lemma => kernel_rfl) (by as_aux_lemma => kernel_rfl) (by as_aux_lemma => kernel_rfl) (fun _ _ _ h => h) (Or.inl ⟨by kernel_rfl, ?_⟩) hS ?_
  rotate_left
  · intro w hSw; obtain ⟨T, hT, hTs⟩ := hSw; have a0 := hT.self; rw [hTs] at a0; clear hT hTs; go_simp
    first | done | with_reducible rfl
  refine wpAnyH_takeE (i := 2) (some 10) (v := ?_) rfl rfl (by as_aux_lemma => kernel_rfl) (by as_aux_lemma => kernel_rfl) (by as_aux_lemma => kernel_rfl) (fun _ _ _ h => h) (Or.inl ⟨by kernel_rfl, ?_⟩) hS ?_
  rotate_left
  · intro w hSw; obtain ⟨T, hT, hTs⟩ := hSw; have a0 := hT.self; rw [hTs] at a0; clear hT hTs; go_simp
    first | done | with_reducible rfl
  refine wpAnyH_takeE (i := 3) (some 11) (v := ?_) rfl rfl (by as_aux_lemma => kernel_rfl) (by as_aux_lemma => kernel_rfl) (by as_aux_lemma => kernel_rfl) (fun _ _ _ h => h) (Or.inl ⟨by kernel_rfl, ?_⟩) hS ?_
  rotate_left
  · intro w hSw; obtain ⟨T, hT, hTs⟩ := hSw; have a0 := hT.self; rw [hTs] at a0; clear hT hTs; go_simp
    first | done | with_reducible rfl
  refine wpAnyH_takeE (i := 4) (some 12) (v := ?_) rfl rfl (by as_aux_lemma => kernel_rfl) (by as_aux_lemma => kernel_rfl) (by as_aux_lemma => kernel_rfl) (fun _ _ _ h => h) (Or.inl ⟨by kernel_rfl, ?_⟩) hS ?_
  rotate_left
  · intro w hSw; obtain ⟨T, hT, hTs⟩ := hSw; have a0 := hT.self; rw [hTs] at a0; clear hT hTs; go_simp
    first | done | with_reducible rfl
  refine wpAnyH_takeE (i := 5) (some 13) (v := ?_) rfl rfl (by as_aux_lemma => kernel_rfl) (by as_aux_lemma => kernel_rfl) (by as_aux_lemma => kernel_rfl) (fun _ _ _ h => h) (Or.inl ⟨by kernel_rfl, ?_⟩) hS ?_
  rotate_left
  · intro w hSw; obtain ⟨T, hT, hTs⟩ := hSw; have a0 := hT.self; rw [hTs] at a0; clear hT hTs; go_simp
    first | done | with_reducible rfl
  refine wpAnyH_takeE (i := 6) (some 14) (v := ?_) rfl rfl (by as_aux_lemma => kernel_rfl) (by as_aux_lemma => kernel_rfl) (by as_aux_lemma => kernel_rfl) (fun _ _ _ h => h) (Or.inl ⟨by kernel_rfl, ?_⟩) hS ?_
  rotate_left
  · intro w hSw; obtain ⟨T, hT, hTs⟩ := hSw; have a0 := hT.self; rw [hTs] at a0; clear hT hTs; go_simp
    first | done | with_reducible rfl
  refine wpAnyH_takeE (i := 7) (some 15) (v := ?_) rfl rfl (by as_aux_lemma => kernel_rfl) (by as_aux_lemma => kernel_rfl) (by as_aux_lemma => kernel_rfl) (fun _ _ _ h => h) (Or.inl ⟨by kernel_rfl, ?_⟩) hS ?_
  rotate_left
  · intro w hSw; obtain ⟨T, hT, hTs⟩ := hSw; have a0 := hT.self; rw [hTs] at a0; clear hT hTs; go_simp
    first | done | with_reducible rfl
  refine wpAnyH_takeE (i := 8) (some 16) (v := ?_) rfl rfl (by as_aux_lemma => kernel_rfl) (by as_aux_lemma => kernel_rfl) (by as_aux_lemma => kernel_rfl) (fun _ _ _ h => h) (Or.inl ⟨by kernel_rfl, ?_⟩) hS ?_
  rotate_left
  · intro w hSw; obtain ⟨T, hT, hTs⟩ := hSw; have a0 := hT.self; rw [hTs] at a0; clear hT hTs; go_simp
    first | done | with_reducible rfl
  refine wpAnyH_takeE (i := 9) (some 17) (v := ?_) rfl rfl (by as_aux_lemma => kernel_rfl) (by as_aux_lemma => kernel_rfl) (by as_aux_lemma => kernel_rfl) (fun _ _ _ h => h) (Or.inl ⟨by kernel_rfl, ?_⟩) hS ?_
  rotate_left
  · intro w hSw; obtain ⟨T, hT, hTs⟩ := hSw; have a0 := hT.self; rw [hTs] at a0; clear hT hTs; go_simp
    first | done | with_reducible rfl
  refine wpAnyH_takeE (i := 10) (some 18) (v := ?_) rfl rfl (by as_aux_lemma => kernel_rfl) (by as_aux_lemma => kernel_rfl) (by as_aux_lemma => kernel_rfl) (fun _ _ _ h => h) (Or.inl ⟨by kernel_rfl, ?_⟩) hS ?_
  rotate_left
  · intro w hSw; obtain ⟨T, hT, hTs⟩ := hSw; have a0 := hT.self; rw [hTs] at a0; clear hT hTs; go_simp
    first | done | with_reducible rfl
  refine wpAnyH_takeE (i := 11) (some 19) (v := ?_) rfl rfl (by as_aux_lemma => kernel_rfl) (by as_aux_lemma => kernel_rfl) (by as_aux_lemma => kernel_rfl) (fun _ _ _ h => h) (Or.inl ⟨by kernel_rfl, ?_⟩) hS ?_
  rotate_left
  · intro w hSw; obtain ⟨T, hT, hTs⟩ := hSw; have a0 := hT.self; rw [hTs] at a0; clear hT hTs; go_simp
    first | done | with_reducible rfl
  refine wpAnyH_takeE (i := 12) (some 20) (v := ?_) rfl rfl (by as_aux_lemma => kernel_rfl) (by as_aux_lemma => kernel_rfl) (by as_aux_lemma => kernel_rfl) (fun _ _ _ h => h) (Or.inl ⟨by kernel_rfl, ?_⟩) hS ?_
  rotate_left
  · intro w hSw; obtain ⟨T, hT, hTs⟩ := hSw; have a0 := hT.self; rw [hTs] at a0; clear hT hTs; go_simp
    first | done | with_reducible rfl
  refine wpAnyH_takeE (i := 13) (some 21) (v := ?_) rfl rfl (by as_aux_lemma => kernel_rfl) (by as_aux_lemma => kernel_rfl) (by as_aux_lemma => kernel_rfl) (fun _ _ _ h => h) (Or.inl ⟨by kernel_rfl, ?_⟩) hS ?_
  rotate_left
  · intro w hSw; obtain ⟨T, hT, hTs⟩ := hSw; have a0 := hT.self; rw [hTs] at a0; clear hT hTs; go_simp
    first | done | with_reducible rfl
  refine wpAnyH_ready (rs := [14]) (by as_aux_lemma => kernel_rfl) (by simp) ?_
  refine AllReadyH.cons rfl (fun K hK => ?_) AllReadyH.nil
  go_simp
  go_wp2_with fail
  skip
  refine hK.out _ _ ?_ (fun hS => ?_)
  · exact ⟨_, HT1.out, rfl⟩
  clear hK K c0 c1 c2 c3 f0 t0
  refine wpAnyH_done (by kernel_rfl) ?_ _
  have HB2 : Hid (Below w.heap.size w (stP W w.heap.size k ⟨(k : Int), 0, 0⟩)) := Lib.hid (HB.out.grown (stP_grown _ _ _ _) (HB.out.size) (fun j e => by cases e; exact Nat.le_refl _))
  have e1 : ((((W.setCell ⟨w.heap.size, k * 4, none⟩ (.int .u16 (k : Int))).setCell ⟨w.heap.size, k * 4 + 1, none⟩ (.int .u8 0)).setCell ⟨w.heap.size, k * 4 + 2, none⟩ (.int .i64 0)).setCell ⟨w.heap.size, k * 4 + 3, none⟩ (.bool true)) = stP W w.heap.size k ⟨(k : Int), 0, 0⟩ := rfl
  rw [e1]
  clear e1 hS HB
  generalize stP W w.heap.size k ⟨(k : Int), 0, 0⟩ = W3 at *
  go_simp
  go_wp2
  go_ret
  exact ⟨rfl, HT1.out, HB2.out.drew⟩

end Go.Proofs.Ytnoconampcemoaa
