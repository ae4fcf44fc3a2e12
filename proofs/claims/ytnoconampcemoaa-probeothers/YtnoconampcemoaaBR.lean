/-
  A range over a function that may be left: one law for the caller; the iterator's word. Iterators that are methods bound to a value.
-/
import Derived.RangeFuncNested
import Derived.RangeFuncBound
import Derived.RangeFuncCalls
import Derived.RangeFuncLeaves
import Derived.RangeFuncBox
import Derived.Shelf.Abstract
import Derived.Shelf.RegionOpen
import Derived.WalkKit
import Derived.OwnWalkIn
import Derived.TacticsInMore
import Derived.LoopNIn
import Derived.LoopIn
import Derived.Maps.AppendAt
import Derived.Deep.AppendLies
import Derived.Test.YtnoconampcemoaaReg
namespace Go.Proofs.Ytnoconampcemoaa
open Go Go.RowKit Go.Shelf

/-- What a round keeps: the iterator's own blocks. -/
structure KpR (n0 n1 : Nat) (W W' : World) : Prop where
  size : W.heap.size ≤ W'.heap.size
  same : ∀ k, n0 ≤ k → k < n1 → k < W.heap.size → W'.heap[k]? = W.heap[k]?
theorem KpR.trans {n0 n1 : Nat} {A B C : World} (h : KpR n0 n1 A B) (k : KpR n0 n1 B C) : KpR n0 n1 A C :=
  ⟨Nat.le_trans h.size k.size, fun j h1 h2 h3 => (k.same j h1 h2 (Nat.lt_of_lt_of_le h3 h.size)).trans (h.same j h1 h2 h3)⟩
theorem KpR.of_below {n0 n1 : Nat} {A B : World} (h : Below A.heap.size A B) : KpR n0 n1 A B := ⟨h.size, fun j _ _ h3 => h.block j h3⟩
theorem KpR.part {n0 n1 m0 m1 : Nat} {A B : World} (h : KpR n0 n1 A B) (h0 : n0 ≤ m0) (h1 : m1 ≤ n1) : KpR m0 m1 A B :=
  ⟨h.size, fun j a b c => h.same j (Nat.le_trans h0 a) (Nat.lt_of_lt_of_le b h1) c⟩
/-- What an iterator's own steps leave alone: what lay ahead of it, and all cells. -/
structure AbB (n0 : Nat) (A B : World) : Prop where
  os : B.os = A.os
  tape : B.tape = A.tape
  output : B.output = A.output
  size : A.heap.size ≤ B.heap.size
  same : ∀ k o, A.heap[k]? = some o → (k < n0 ∨ o.isCells = true) → B.heap[k]? = some o
theorem AbB.of_below {n0 : Nat} {A B : World} (h : Below A.heap.size A B) : AbB n0 A B :=
  ⟨h.os, h.tape, h.output, h.size, fun k _ hk _ => (h.block k (Array.getElem?_eq_some_iff.1 hk).1).trans hk⟩
theorem AbB.mono {n0 n1 : Nat} {A B : World} (h : AbB n1 A B) (hn : n0 ≤ n1) : AbB n0 A B :=
  ⟨h.os, h.tape, h.output, h.size, fun k o hk hc => h.same k o hk (hc.elim (fun e => .inl (Nat.lt_of_lt_of_le e hn)) .inr)⟩
theorem AbB.trans {n0 : Nat} {A B C : World} (h : AbB n0 A B) (k : AbB n0 B C) : AbB n0 A C :=
  ⟨k.os.trans h.os, k.tape.trans h.tape, k.output.trans h.output, Nat.le_trans h.size k.size, fun j o hj hc => k.same j o (h.same j o hj hc) hc⟩
theorem AbB.putObj {n0 : Nat} {W : World} {l : Nat} {o : Obj} (hl : n0 ≤ l) (ho : W.heap[l]? = some o) (hc : o.isCells = false) (o' : Obj) : AbB n0 W (W.putObj l o') := by
  refine ⟨rfl, rfl, rfl, by simp [World.putObj], fun k o2 hk h2 => ?_⟩
  by_cases e : k = l
  · subst e
    rw [ho] at hk
    obtain rfl := Option.some.inj hk
    rcases h2 with h2 | h2
    · omega
    · rw [hc] at h2; cases h2
  · exact (World.putObj_heap_other e).trans hk
theorem AbB.below {n0 N : Nat} {w A B : World} (h : AbB n0 A B) (hw : Below N w A) (hN : N ≤ w.heap.size) (hn : N ≤ n0) : Below N w B :=
  ⟨h.os.trans hw.os, h.tape.trans hw.tape, h.output.trans hw.output, Nat.le_trans hw.size h.size, fun k hk => by
    rw [← hw.block k hk]
    have hk2 : k < A.heap.size := Nat.lt_of_lt_of_le (Nat.lt_of_lt_of_le hk hN) hw.size
    cases e : A.heap[k]? with
    | none => rw [Array.getElem?_eq_none_iff] at e; omega
    | some o => exact h.same k o e (.inl (Nat.lt_of_lt_of_le hk hn))⟩
theorem AbB.cells {n0 : Nat} {A B : World} (h : AbB n0 A B) {k : Nat} {cs : Array Value} {t : TypeId} {fr : Nat × Nat} (hk : A.heap[k]? = some (.cells cs t fr)) : B.heap[k]? = some (.cells cs t fr) :=
  h.same k _ hk (.inr rfl)
/-- What an iterator does: each of a list comes, in order, till a round says no more. c: how many blocks of its own it has ahead of the first round. -/
def SeqB {α : Type} (F : Fence) (n : Nat) (P : Program) (g : Nat) (bn lb : Array Value) (encs : α → Array Value) (c : Nat) (xs : List α) (W : World) : Prop :=
  ∀ (l : Nat) (J Jx : List α → World → Prop), (∀ s A B, J s A → AbB W.heap.size A B → J s B) → (∀ s A B, Jx s A → AbB W.heap.size A B → Jx s B) →
    (∀ pre x W1, J pre W1 → W.heap.size + c ≤ W1.heap.size → pre ++ [x] <+: xs → YieldAt F (n - 1) P l (encs x) W1 fun e W' =>
      (e = .returned (.bool true) ∧ J (pre ++ [x]) W' ∧ KpR W.heap.size (W.heap.size + c) W1 W') ∨ (e = .returned (.bool false) ∧ Jx (pre ++ [x]) W' ∧ KpR W.heap.size (W.heap.size + c) W1 W')) →
    J [] W →
    CallsIn F n P g (bn ++ #[.func (.yield l) #[] #[]] ++ lb) W fun e W' => (∃ v, e = .returned v) ∧ (J xs W' ∨ ∃ pre, Jx pre W')

/-- How the body of a round is left. -/
def postB {α : Type} (n0 n1 : Nat) (I : List α → World → Prop) (Ix : Code → List α → World → Prop) (xs : List α) (W : World) : Exit → Act → World → Prop
  | .normal, _, W' => KpR n0 n1 W W' ∧ I xs W'
  | .ret, _, W' => KpR n0 n1 W W' ∧ Ix .ret xs W'
  | .exit id, _, W' => KpR n0 n1 W W' ∧ Ix (.exit id) xs W'
  | _, _, _ => False

theorem wpIn_rangeB {F : Fence} {n : Nat} {P : Program} {α : Type} {g : Operand} {ps : Array Tmp} {assign body : Code} {Q : Exit → Act → World → Prop} {a : Act} {w : World}
    (hro : F.round = none) (h1 : F.depth.isSome = true → 1 ≤ n) {gf : Nat} {bn lb : Array Value} (hg : a.eval g = .func (.func gf) bn lb) (hFg : F.fn gf) (eg : ∀ args w, (callFunc gf args).run P w = .ok (.enter gf args) w)
    {encs : α → Array Value} {c : Nat} {xs : List α} (hseq : ∀ W, Below w.heap.size w W → W.heap.size = w.heap.size + 2 → SeqB F (n - 1) P gf bn lb encs c xs W)
    (hps : ∀ x, (encs x).size = ps.size)
    (I : List α → World → Prop) (Ix : Code → List α → World → Prop) (hI : ∀ s A B, I s A → AbB w.heap.size A B → I s B) (hIx : ∀ cd s A B, Ix cd s A → AbB w.heap.size A B → Ix cd s B) (h0 : I [] w)
    (Ax : α → Act → World → Prop) (hAx : ∀ x a' A B, Ax x a' A → AbB w.heap.size A B → Ax x a' B)
    (hassign : ∀ (l : Nat) (pre : List α) (x : α) (W : World) (K : Act → World → Prop), I pre W → w.heap.size + 2 + c ≤ W.heap.size → (∀ a' W', Below W.heap.size W W' → Ax x a' W' → K a' W') →
      assign.wpIn (F.inRound l) (n - 1 - 1) P (Exit.then K (fun _ _ _ => False)) { tmps := (ps.zip (encs x)).foldl (fun t (p, v) => t.setIfInBounds p v) a.tmps, defers := [] } W)
    (hbody : ∀ (l : Nat) (pre : List α) (x : α) (a' : Act) (W : World), I pre W → w.heap.size + 2 + c ≤ W.heap.size → pre ++ [x] <+: xs → Ax x a' W → body.wpIn (F.inRound l) (n - 1 - 1) P (postB w.heap.size (w.heap.size + 2 + c) I Ix (pre ++ [x]) W) a' W)
    (hdone : ∀ (D : Nat) (W : World), w.heap.size ≤ D → I xs W → W.heap[D]? = some (.deferred (some [])) → Q .normal { a with defers := { target := .collected D, args := #[] } :: a.defers } W)
    (hstop : ∀ (D : Nat) (cd : Code) (pre : List α) (W : World), w.heap.size ≤ D → Ix cd pre W → W.heap[D]? = some (.deferred (some [])) → cd.wpIn F n P Q { a with defers := { target := .collected D, args := #[] } :: a.defers } W) :
    (Code.rangeFunc g ps assign body).wpIn F n P Q a w := by
  refine wpIn_rangeFunc ?_
  intro fn hfn
  rw [hro]
  obtain ⟨rec, hrec⟩ : ∃ rec : LoopState → Option Code → Loop, rec = fun st pe => { state := st, pending := pe, fn, tmps := a.tmps, params := ps, assign, body, defers := w.heap.size } := ⟨_, rfl⟩
  obtain ⟨W1, hW1⟩ : ∃ W1, (w.alloc (.deferred (some []))).alloc (.loop (rec .ready none)) = W1 := ⟨_, rfl⟩
  have hL1 : W1.heap[w.heap.size + 1]? = some (.loop (rec .ready none)) := by
    rw [← hW1]; have := World.alloc_heap_new (w.alloc (.deferred (some []))) (.loop (rec .ready none)); rwa [World.size_alloc] at this
  have hK1 : W1.heap[w.heap.size]? = some (.deferred (some [])) := by
    rw [← hW1]; exact (Below.heap_alloc _ _ _ (by simp)).trans (World.alloc_heap_new w _)
  have hb1 : Below w.heap.size w W1 := by
    rw [← hW1]; exact ((Below.refl _ w).alloc (Nat.le_refl _) _).alloc (by simp) _
  have hsz1 : W1.heap.size = w.heap.size + 2 := by rw [← hW1]; simp
  have hI1 : I [] W1 := hI _ _ _ h0 (AbB.of_below hb1)
  refine ⟨w.heap.size + 1, [{ target := .collected w.heap.size, args := #[] }], W1, { target := .fn (.func gf) lb, args := bn ++ #[.func (.yield (w.heap.size + 1)) #[] #[]] }, W1, gf,
    bn ++ #[.func (.yield (w.heap.size + 1)) #[] #[]] ++ lb, W1, ?_, ?_, ?_, ?_, h1, ?_⟩
  · rw [← hW1, hrec]; exact run_enterLoop_outer _ _ _ _ _
  · simp only [resolve, hg]
    simp [go_sem]
  · intro f' hf'; simp [Target.leads] at hf'; subst hf'; exact hFg
  · simp [invoke, go_sem, eg]
  · have fin : ∀ (jump : Option Code) (W W3 : World), KpR w.heap.size (w.heap.size + 2 + c) W W3 → W.heap[w.heap.size + 1]? = some (.loop { rec .ready none with state := .busy }) → W.heap[w.heap.size]? = some (.deferred (some [])) →
          (Instr.endRound (w.heap.size + 1) jump).run P W3 = .ok (.bool jump.isNone) (W3.putObj (w.heap.size + 1) (.loop (rec (if jump.isNone then .ready else .done) jump))) ∧
          W3.heap[w.heap.size + 1]? = some (.loop { rec .ready none with state := .busy }) ∧
          (W3.putObj (w.heap.size + 1) (.loop (rec (if jump.isNone then .ready else .done) jump))).heap[w.heap.size + 1]? = some (.loop (rec (if jump.isNone then .ready else .done) jump)) ∧
          (W3.putObj (w.heap.size + 1) (.loop (rec (if jump.isNone then .ready else .done) jump))).heap[w.heap.size]? = some (.deferred (some [])) := fun jump W W3 hk3 hl2 hk2 => by
        have hlt := (Array.getElem?_eq_some_iff.1 hl2).1
        have hl3 := (hk3.same _ (by omega) (by omega) hlt).trans hl2
        have := run_endRound (P := P) jump hl3
        rw [hrec] at this ⊢
        exact ⟨this, by rw [hrec] at hl3; exact hl3, World.putObj_heap_same (Array.getElem?_eq_some_iff.1 hl3).1, (World.putObj_heap_other (by omega)).trans ((hk3.same _ (Nat.le_refl _) (by omega) (by omega)).trans hk2)⟩
    refine (hseq W1 hb1 hsz1 (w.heap.size + 1)
      (fun pre W => I pre W ∧ W.heap[w.heap.size + 1]? = some (.loop (rec .ready none)) ∧ W.heap[w.heap.size]? = some (.deferred (some [])))
      (fun pre W => ∃ cd, Ix cd pre W ∧ W.heap[w.heap.size + 1]? = some (.loop (rec .done (some cd))) ∧ W.heap[w.heap.size]? = some (.deferred (some [])))
      (fun s A B hs hab => ⟨hI s A B hs.1 (hab.mono (by omega)), hab.same _ _ hs.2.1 (.inl (by omega)), hab.same _ _ hs.2.2 (.inl (by omega))⟩)
      (fun s A B hs hab => by
        obtain ⟨cd, hc, hl, hk⟩ := hs
        exact ⟨cd, hIx cd s A B hc (hab.mono (by omega)), hab.same _ _ hl (.inl (by omega)), hab.same _ _ hk (.inl (by omega))⟩)
      ?_ ⟨hI1, hL1, hK1⟩).mono ?_
    · rintro pre x W ⟨hi, hl, hk⟩ hlen hpre
      have hlt : w.heap.size + 1 < W.heap.size := (Array.getElem?_eq_some_iff.1 hl).1
      have hy := run_yield (P := P) (args := encs x) hl (by rw [hrec]; exact hps x)
      rw [hrec] at hy
      refine ⟨fn, _, assign, body, hy, roundIn_of_wpIn hfn (hassign _ pre x W _ hi (by omega) ?_)⟩
      clear hy
      intro a' Wa hba hax
      replace hl := (hba.block _ hlt).trans hl
      replace hk := (hba.block _ (by omega)).trans hk
      replace hi := hI _ _ _ hi (AbB.of_below hba)
      have hlt2 : w.heap.size + 1 < Wa.heap.size := Nat.lt_of_lt_of_le hlt hba.size
      refine ⟨_, run_beginRound hl (by rw [hrec]), ?_⟩
      have hl2 : (Wa.putObj (w.heap.size + 1) (.loop { rec .ready none with state := .busy })).heap[w.heap.size + 1]? = some (.loop { rec .ready none with state := .busy }) := World.putObj_heap_same hlt2
      have hk2 : (Wa.putObj (w.heap.size + 1) (.loop { rec .ready none with state := .busy })).heap[w.heap.size]? = some (.deferred (some [])) := (World.putObj_heap_other (by omega)).trans hk
      have hab2 : AbB w.heap.size Wa (Wa.putObj (w.heap.size + 1) (.loop { rec .ready none with state := .busy })) := AbB.putObj (by omega) hl rfl _
      have hkp : ∀ W3, KpR w.heap.size (w.heap.size + 2 + c) (Wa.putObj (w.heap.size + 1) (.loop { rec .ready none with state := .busy })) W3 → ∀ o3, KpR W1.heap.size (W1.heap.size + c) W (W3.putObj (w.heap.size + 1) o3) := fun W3 h3 o3 => by
        refine ⟨by have h4 := h3.size; have h5 := hba.size; simp only [World.putObj, Array.size_setIfInBounds] at h4 ⊢; omega, fun k h4 h5 h6 => ?_⟩
        rw [hsz1] at h4 h5
        rw [World.putObj_heap_other (by omega), h3.same k (by omega) (by omega) (by have h5 := hba.size; simp only [World.putObj, Array.size_setIfInBounds]; omega), World.putObj_heap_other (by omega), hba.block k h6]
      refine wpIn_mono (hbody _ pre x a' _ (hI _ _ _ hi hab2) (Nat.le_trans (show w.heap.size + 2 + c ≤ Wa.heap.size by have h5 := hba.size; omega) hab2.size) hpre (hAx _ _ _ _ hax hab2)) ?_
      rintro e a3 W3 hp
      cases e with
      | normal =>
        obtain ⟨hk3, hi3⟩ := hp
        obtain ⟨hr, hl3, hl4, hk4⟩ := fin none _ W3 hk3 hl2 hk2
        exact ⟨_, _, hr, .inl ⟨rfl, ⟨hI _ _ _ hi3 (AbB.putObj (by omega) hl3 rfl _), hl4, hk4⟩, hkp W3 hk3 _⟩⟩
      | ret =>
        obtain ⟨hk3, hi3⟩ := hp
        obtain ⟨hr, hl3, hl4, hk4⟩ := fin (some .ret) _ W3 hk3 hl2 hk2
        exact ⟨_, _, hr, .inr ⟨rfl, ⟨.ret, hIx _ _ _ _ hi3 (AbB.putObj (by omega) hl3 rfl _), hl4, hk4⟩, hkp W3 hk3 _⟩⟩
      | exit id =>
        obtain ⟨hk3, hi3⟩ := hp
        obtain ⟨hr, hl3, hl4, hk4⟩ := fin (some (.exit id)) _ W3 hk3 hl2 hk2
        exact ⟨_, _, hr, .inr ⟨rfl, ⟨.exit id, hIx _ _ _ _ hi3 (AbB.putObj (by omega) hl3 rfl _), hl4, hk4⟩, hkp W3 hk3 _⟩⟩
      | goto t => exact hp.elim
      | panic ch => exact hp.elim
      | outgrown => exact hp.elim
    · rintro e W2 ⟨⟨v, rfl⟩, (⟨hi, hl, hk⟩ | ⟨pre, cd, hi, hl, hk⟩)⟩
      · exact ⟨none, _, by have := run_endLoop (P := P) hl (by rw [hrec]; simp); rw [hrec] at this; exact this, hdone _ _ (Nat.le_refl _) (hI _ _ _ hi (AbB.putObj (by omega) hl rfl _)) ((World.putObj_heap_other (by omega)).trans hk)⟩
      · exact ⟨some cd, _, by have := run_endLoop (P := P) hl (by rw [hrec]; simp); rw [hrec] at this; exact this, hstop _ cd pre _ (Nat.le_refl _) (hIx _ _ _ _ hi (AbB.putObj (by omega) hl rfl _)) ((World.putObj_heap_other (by omega)).trans hk)⟩

theorem RoundIn.anyDeep {F : Fence} (hd : F.depth = none) {m m' : Nat} {P : Program} {l : Nat} {f : FuncId} {tmps : Array Value} {assign body : Code} {w : World} {R : Ending → World → Prop}
    (h : RoundIn F m P l f tmps assign body w R) : RoundIn F m' P l f tmps assign body w R := ⟨h.1, fun c cs _ => h.2 c cs (fun d h => by rw [hd] at h; cases h)⟩
theorem YieldAt.anyDeep {F : Fence} (hd : F.depth = none) {m : Nat} (m' : Nat) {P : Program} {l : Nat} {args : Array Value} {W : World} {R : Ending → World → Prop} (h : YieldAt F m P l args W R) : YieldAt F m' P l args W R := by
  obtain ⟨fn, tmps, assign, body, hy, hR⟩ := h
  exact ⟨fn, tmps, assign, body, hy, RoundIn.anyDeep hd hR⟩

end Go.Proofs.Ytnoconampcemoaa
