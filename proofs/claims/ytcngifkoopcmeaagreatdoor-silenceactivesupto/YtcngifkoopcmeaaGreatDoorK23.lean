/-
  A range over a function whose iterator turns what lay ahead of the loop: one law for the caller. What the matchers of package silence's reader are: the function that read ranges over. What read of package silence reads.
-/
import Derived.RangeFuncNested
import Derived.RangeFuncBound
import Derived.RangeFuncCalls
import Derived.RangeFuncLeaves
import Derived.RangeFuncBox
import Derived.Shelf.Abstract
import Derived.Shelf.RegionOpen
import Derived.WalkKit
import Derived.OwnWalkIn
import Derived.TacticsInMore
import Derived.LoopNIn
import Derived.LoopIn
import Derived.Maps.AppendAt
import Derived.Test.YtcngifkoopcmeaaGreatDoorK21
import Derived.Lib.SlBytesConst
import Derived.Deep.AppendLies
namespace Go.Proofs.YtcngifkoopcmeaaGreatDoor
open Go Go.RowKit Go.Shelf

/-- What an iterator does, where its rounds go on: each of a list comes, in order; what the rounds keep (Kp), what the iterator turns (Ab), what is so at its end (E). -/
def SeqR {α : Type} (F : Fence) (n : Nat) (P : Program) (g : Nat) (lb : Array Value) (encs : α → Array Value) (Kp Ab : World → World → Prop) (xs : List α) (E : World → Prop) (w : World) : Prop :=
  ∀ (l : Nat) (J : List α → World → Prop) (W : World), Kp w W → (∀ s A B, J s A → Ab A B → J s B) →
    (∀ pre x W1, J pre W1 → pre ++ [x] <+: xs → YieldAt F (n - 1) P l (encs x) W1 fun e W' => e = .returned (.bool true) ∧ J (pre ++ [x]) W' ∧ Kp W1 W') →
    J [] W →
    CallsIn F n P g (#[.func (.yield l) #[] #[]] ++ lb) W fun e W' => (∃ v, e = .returned v) ∧ J xs W' ∧ E W'

/-- How the body of a round is left. -/
def postR {α : Type} (B : Nat) (Kp : World → World → Prop) (I : List α → World → Prop) (xs : List α) (W : World) : Exit → Act → World → Prop
  | .normal, _, W' => KeepsFrom B W W' ∧ Kp W W' ∧ I xs W'
  | _, _, _ => False

theorem wpIn_rangeR {F : Fence} {n : Nat} {P : Program} {α : Type} {g : Operand} {ps : Array Tmp} {assign body : Code} {Q : Exit → Act → World → Prop} {a : Act} {w : World}
    (hro : F.round = none) (h1 : 1 ≤ n) {gf : Nat} {lb : Array Value} (hg : a.eval g = .func (.func gf) #[] lb) (hFg : F.fn gf) (eg : ∀ args w, (callFunc gf args).run P w = .ok (.enter gf args) w)
    {encs : α → Array Value} {Kp Ab : World → World → Prop} {xs : List α} {E : World → Prop} (hseq : SeqR F (n - 1) P gf lb encs Kp Ab xs E w)
    (hKt : ∀ {A B C : World}, Kp A B → Kp B C → Kp A C) (hKb : ∀ (W : World) (l : Nat) (o o' : Obj), w.heap.size ≤ l → W.heap[l]? = some o → o.isCells = false → Kp W (W.putObj l o')) (hKa : ∀ o o', Kp w ((w.alloc o).alloc o'))
    (hps : ∀ x, (encs x).size = ps.size)
    (I : List α → World → Prop) (hIp : ∀ s W l o o', I s W → w.heap.size ≤ l → W.heap[l]? = some o → o.isCells = false → I s (W.putObj l o')) (hIa : ∀ o o', I [] ((w.alloc o).alloc o')) (hIb : ∀ s A B, I s A → Ab A B → I s B)
    (hAb : ∀ (A B : World) (k : Nat), Ab A B → w.heap.size ≤ k → k < A.heap.size → B.heap[k]? = A.heap[k]?)
    (hEp : ∀ W l o o', E W → w.heap.size ≤ l → W.heap[l]? = some o → o.isCells = false → E (W.putObj l o'))
    (Ax : α → Act → World → Prop) (hAx : ∀ x a' W l o o', Ax x a' W → w.heap.size ≤ l → W.heap[l]? = some o → o.isCells = false → Ax x a' (W.putObj l o'))
    (hassign : ∀ (l : Nat) (pre : List α) (x : α) (W : World) (K : Act → World → Prop), I pre W → w.heap.size + 2 ≤ W.heap.size → pre ++ [x] <+: xs → (∀ a' W', KeepsFrom w.heap.size W W' → Kp W W' → I pre W' → Ax x a' W' → K a' W') →
      assign.wpIn (F.inRound l) (n - 1 - 1) P (Exit.then K (fun _ _ _ => False)) { tmps := (ps.zip (encs x)).foldl (fun t (p, v) => t.setIfInBounds p v) a.tmps, defers := [] } W)
    (hbody : ∀ (l : Nat) (pre : List α) (x : α) (a' : Act) (W : World), I pre W → w.heap.size + 2 ≤ W.heap.size → pre ++ [x] <+: xs → Ax x a' W → body.wpIn (F.inRound l) (n - 1 - 1) P (postR w.heap.size Kp I (pre ++ [x]) W) a' W)
    (hdone : ∀ (D : Nat) (W : World), w.heap.size ≤ D → I xs W → E W → W.heap[D]? = some (.deferred (some [])) → Q .normal { a with defers := { target := .collected D, args := #[] } :: a.defers } W) :
    (Code.rangeFunc g ps assign body).wpIn F n P Q a w := by
  refine wpIn_rangeFunc ?_
  intro fn hfn
  rw [hro]
  obtain ⟨rec, hrec⟩ : ∃ rec : LoopState → Option Code → Loop, rec = fun st pe => { state := st, pending := pe, fn, tmps := a.tmps, params := ps, assign, body, defers := w.heap.size } := ⟨_, rfl⟩
  obtain ⟨W1, hW1⟩ : ∃ W1, (w.alloc (.deferred (some []))).alloc (.loop (rec .ready none)) = W1 := ⟨_, rfl⟩
  have hL1 : W1.heap[w.heap.size + 1]? = some (.loop (rec .ready none)) := by
    rw [← hW1]; have := World.alloc_heap_new (w.alloc (.deferred (some []))) (.loop (rec .ready none)); rwa [World.size_alloc] at this
  have hK1 : W1.heap[w.heap.size]? = some (.deferred (some [])) := by
    rw [← hW1]; exact (Below.heap_alloc _ _ _ (by simp)).trans (World.alloc_heap_new w _)
  have hI1 : I [] W1 := by rw [← hW1]; exact hIa _ _
  have hb1 : Kp w W1 := by rw [← hW1]; exact hKa _ _
  refine ⟨w.heap.size + 1, [{ target := .collected w.heap.size, args := #[] }], W1, { target := .fn (.func gf) lb, args := #[.func (.yield (w.heap.size + 1)) #[] #[]] }, W1, gf,
    #[.func (.yield (w.heap.size + 1)) #[] #[]] ++ lb, W1, ?_, ?_, ?_, ?_, fun _ => h1, ?_⟩
  · rw [← hW1, hrec]; exact run_enterLoop_outer _ _ _ _ _
  · simp only [resolve, hg]
    simp [go_sem]
  · intro f' hf'; simp [Target.leads] at hf'; subst hf'; exact hFg
  · simp [invoke, go_sem, eg]
  · refine (hseq (w.heap.size + 1)
      (fun pre W => I pre W ∧ W.heap[w.heap.size + 1]? = some (.loop (rec .ready none)) ∧ W.heap[w.heap.size]? = some (.deferred (some [])))
      W1 hb1
      (fun s A B hs hab => ⟨hIb s A B hs.1 hab, (hAb A B _ hab (by omega) (Array.getElem?_eq_some_iff.1 hs.2.1).1).trans hs.2.1, (hAb A B _ hab (Nat.le_refl _) (Array.getElem?_eq_some_iff.1 hs.2.2).1).trans hs.2.2⟩)
      ?_ ⟨hI1, hL1, hK1⟩).mono ?_
    · rintro pre x W ⟨hi, hl, hk⟩ hlen
      have hlt : w.heap.size + 1 < W.heap.size := (Array.getElem?_eq_some_iff.1 hl).1
      have hy := run_yield (P := P) (args := encs x) hl (by rw [hrec]; exact hps x)
      rw [hrec] at hy
      refine ⟨fn, _, assign, body, hy, roundIn_of_wpIn hfn (hassign _ pre x W _ hi (by omega) hlen ?_)⟩
      intro a' W2 hk2' hkp2 hi2 hax2
      have hl2' := hk2'.same _ _ (by omega) hl rfl
      have hk2'' := hk2'.same _ _ (Nat.le_refl _) hk rfl
      have hlt2 : w.heap.size + 1 < W2.heap.size := (Array.getElem?_eq_some_iff.1 hl2').1
      refine ⟨_, run_beginRound hl2' (by rw [hrec]), ?_⟩
      have hl2 : (W2.putObj (w.heap.size + 1) (.loop { rec .ready none with state := .busy })).heap[w.heap.size + 1]? = some (.loop { rec .ready none with state := .busy }) := World.putObj_heap_same hlt2
      have hk2 : (W2.putObj (w.heap.size + 1) (.loop { rec .ready none with state := .busy })).heap[w.heap.size]? = some (.deferred (some [])) := (World.putObj_heap_other (by omega)).trans hk2''
      have hw2 : Kp W (W2.putObj (w.heap.size + 1) (.loop { rec .ready none with state := .busy })) := hKt hkp2 (hKb _ _ _ _ (by omega) hl2' rfl)
      refine wpIn_mono (hbody _ pre x a' _ (hIp _ _ _ _ _ hi2 (by omega) hl2' rfl) (by simp; omega) hlen (hAx _ _ _ _ _ _ hax2 (by omega) hl2' rfl)) ?_
      rintro e a3 W3 hp
      cases e with
      | normal =>
        obtain ⟨hk3, hkp3, hi3⟩ := hp
        have hl3 := hk3.same _ _ (by omega) hl2 rfl
        have hr := run_endRound (P := P) none hl3
        refine ⟨_, _, hr, rfl, ⟨hIp _ _ _ _ _ hi3 (by omega) hl3 rfl, ?_, (World.putObj_heap_other (by omega)).trans (hk3.same _ _ (Nat.le_refl _) hk2 rfl)⟩, hKt (hKt hw2 hkp3) (hKb _ _ _ _ (by omega) hl3 rfl)⟩
        rw [World.putObj_heap_same (Array.getElem?_eq_some_iff.1 hl3).1, hrec]
        simp
      | ret => exact hp.elim
      | exit id => exact hp.elim
      | goto t => exact hp.elim
      | panic ch => exact hp.elim
      | outgrown => exact hp.elim
    · rintro e W2 ⟨⟨v, rfl⟩, ⟨hi, hl, hk⟩, hE⟩
      exact ⟨none, _, by have := run_endLoop (P := P) hl (by rw [hrec]; simp); rw [hrec] at this; exact this, hdone _ _ (Nat.le_refl _) (hIp _ _ _ _ _ hi (by omega) hl rfl) (hEp _ _ _ _ hE (by omega) hl rfl) ((World.putObj_heap_other (by omega)).trans hk)⟩


/-- What a round keeps: all that lay below n1, but for one block. -/
structure KpS (n1 sB : Nat) (W W' : World) : Prop where
  os : W'.os = W.os
  tape : W'.tape = W.tape
  output : W'.output = W.output
  size : W.heap.size ≤ W'.heap.size
  same : ∀ k, k < n1 → k ≠ sB → W'.heap[k]? = W.heap[k]?
theorem KpS.trans {n1 sB : Nat} {A B C : World} (h : KpS n1 sB A B) (k : KpS n1 sB B C) : KpS n1 sB A C :=
  ⟨k.os.trans h.os, k.tape.trans h.tape, k.output.trans h.output, Nat.le_trans h.size k.size, fun j hj hs => (k.same j hj hs).trans (h.same j hj hs)⟩
theorem KpS.of_below {n1 sB : Nat} {A B : World} (h : Below n1 A B) : KpS n1 sB A B := ⟨h.os, h.tape, h.output, h.size, fun j hj _ => h.block j hj⟩
theorem KpS.below {n1 sB N : Nat} {A B : World} (h : KpS n1 sB A B) (h1 : N ≤ n1) (h2 : N ≤ sB) : Below N A B := ⟨h.os, h.tape, h.output, h.size, fun j hj => h.same j (by omega) (by omega)⟩
theorem KpS.cell {n1 sB : Nat} {A B : World} (h : KpS n1 sB A B) {k i : Nat} (hk : k < n1) (hs : k ≠ sB) : B.cell? ⟨k, i, none⟩ = A.cell? ⟨k, i, none⟩ := by
  simp only [World.cell?, h.same k hk hs]
theorem Rd.keptS {n1 sB : Nat} {A B : World} (k : KpS n1 sB A B) {rb : Nat} {a : Option Addr} {c : Nat} {l : List UInt8} {e : Int} (h : Rd A rb a c l e) (hr : rb < n1) (hs : rb < sB) : Rd B rb a c l e := by
  refine ⟨(k.same rb hr (by omega)).trans h.blk, h.le, h.lim, fun hn => ?_, h.away, h.err⟩
  obtain ⟨b, o, rfl, hc⟩ := h.bytes hn
  have hb := h.away _ rfl
  simp only at hb
  exact ⟨b, o, rfl, fun i hi => by rw [k.cell (by omega) (by omega)]; exact hc i hi⟩

theorem drewS (B : Nat) (w : World) (n : Nat) : Below B w (w.drewN n) := ⟨rfl, rfl, rfl, Nat.le_refl _, fun _ _ => rfl⟩
/-- A matcher as the loop's variable. -/
def encsM (m : Mt) : Array Value := #[.agg #[.string m.1, .int .u8 (m.2.1 : Int), .string m.2.2]]

theorem rdMs_stop {f : Nat} {e : Int} {l : List UInt8} (h : isM l = false) : rdMs f e l = ([], l, e) := by
  cases f with
  | zero => rfl
  | succ f =>
    unfold rdMs
    rw [h]
    rfl
theorem rdMs_bad {f : Nat} {e e3 : Int} {l l3 : List UInt8} {m : Mt} (h : isM l = true) (hr : rdMt l = (l3, e3, m)) (h3 : e3 ≠ 0) (hf : l.length ≤ f) : rdMs f e l = ([], l3, e3) := by
  obtain ⟨g, rfl⟩ : ∃ g, f = g + 1 := ⟨f - 1, by have := isM_cons h; omega⟩
  unfold rdMs
  rw [if_pos h, hr]
  simp only
  rw [if_neg h3]
theorem rdMs_next {f : Nat} {e : Int} {l l3 : List UInt8} {m : Mt} (h : isM l = true) (hr : rdMt l = (l3, 0, m)) (hf : l.length ≤ f) : ∃ g, l3.length ≤ g ∧ rdMs f e l = (m :: (rdMs g 0 l3).1, (rdMs g 0 l3).2) := by
  obtain ⟨g, rfl⟩ : ∃ g, f = g + 1 := ⟨f - 1, by have := isM_cons h; omega⟩
  have := rdMt_less (isM_cons h)
  rw [hr] at this
  refine ⟨g, by simp only at this; omega, ?_⟩
  conv => lhs; unfold rdMs
  rw [if_pos h, hr]
  simp only [if_true]

/-- What is left is the end of what there was. -/
def Tail (l v : List UInt8) : Prop := ∃ q, v = q ++ l
theorem textE_tail {most e : Int} {l l1 s : List UInt8} {e1 : Int} (h : textE most e l = (l1, e1, s)) : l1 = [] ∨ Tail l1 l := by
  by_cases h1 : e1 = 0
  · subst h1
    by_cases h0 : e = 0
    · subst h0
      exact .inr ⟨_, rdText_laid (show rdText most l = (l1, 0, s) from h)⟩
    · simp only [textE, if_neg h0, Prod.mk.injEq] at h
      exact .inl h.1.symm
  · exact .inl ((textE_err h).1 h1)
theorem intE_tail {e : Int} {l l1 : List UInt8} {e1 n : Int} (h : intE e l = (l1, e1, n)) : l1 = [] ∨ Tail l1 l := by
  by_cases h1 : e1 = 0
  · subst h1
    by_cases h0 : e = 0
    · subst h0
      exact .inr ⟨_, rdInt_laid (show rdInt l = (l1, 0, n) from h)⟩
    · simp only [intE, if_neg h0, Prod.mk.injEq] at h
      exact .inl h.1.symm
  · exact .inl ((intE_err h).1 h1)
theorem Tail.trans {a b c : List UInt8} (h : a = [] ∨ Tail a b) (k : b = [] ∨ Tail b c) : a = [] ∨ Tail a c := by
  rcases h with h | ⟨q, rfl⟩
  · exact .inl h
  · rcases k with k | ⟨p, rfl⟩
    · exact .inl (List.append_eq_nil_iff.1 k).2
    · exact .inr ⟨p ++ q, by simp⟩
theorem Tail.nil (v : List UInt8) : Tail [] v := ⟨v, by simp⟩
theorem Tail.of {a b : List UInt8} (h : a = [] ∨ Tail a b) : Tail a b := by
  rcases h with rfl | h
  · exact Tail.nil b
  · exact h
/-- The reader's next byte, as the text has it. -/
theorem Tail.next {x : UInt8} {l : List UInt8} {v : ByteArray} (h : Tail (x :: l) v.data.toList) : ∃ k : Nat, v.size = k + (l.length + 1) ∧ ∃ hk : k < v.size, v[k] = x := by
  obtain ⟨q, hq⟩ := h
  have hl : v.size = q.length + (l.length + 1) := by
    have := congrArg List.length hq
    simp at this
    exact this
  refine ⟨q.length, hl, by omega, ?_⟩
  have e : v.data.toList[q.length]? = some x := by rw [hq]; simp
  have hlt : q.length < v.data.size := by have : v.data.size = v.size := rfl; omega
  rw [Array.getElem?_toList, Array.getElem?_eq_getElem hlt] at e
  exact Option.some.inj e

set_option maxRecDepth 100000 in
set_option maxHeartbeats 4000000 in
theorem smatchers1_in (n : Nat) (v : ByteArray) (rb b1 b2 n1 sB B : Nat) (hB : B ≤ rb) (hrb : rb < sB) (hs1 : sB < b1) (hs2 : sB < b2) (hn1 : b1 < n1) (hn2 : b2 < n1) (w : World)
    (a0 : Option Addr) (c0 : Nat) (l0 : List UInt8) (e0 : Int) (hrd : Rd w rb a0 c0 l0 e0) (ht : Tail l0 v.data.toList) (hvs : v.size ≤ 140737488355328) (hv : VarsOk B w) (hc1 : w.cell? ⟨b1, 0, none⟩ = some (.pointer (some ⟨rb, 0, none⟩))) (hc2 : w.cell? ⟨b2, 0, none⟩ = some (.string v))
    (f0 : Nat) (hf0 : l0.length ≤ f0) (hnw : n1 ≤ w.heap.size) :
    SeqR Fence.wide n Tryz.prog 156 #[.pointer (some ⟨b1, 0, none⟩), .pointer (some ⟨b2, 0, none⟩)] encsM (KpS n1 sB) (fun A B => A.grownBy B (some rb)) (rdMs f0 e0 l0).1
      (fun W' => ∃ a c, Rd W' rb a c (rdMs f0 e0 l0).2.1 (rdMs f0 e0 l0).2.2) w := by
  intro ll J W hK hJa hY h0
  have hrd1 := hrd.keptS hK (by omega) hrb
  have hv1 := hv.on (hK.below (N := B) (by omega) (by omega))
  have k1 := (hK.cell (i := 0) hn1 (by omega)).trans hc1
  have k2 := (hK.cell (i := 0) hn2 (by omega)).trans hc2
  have HY := Lib.hid hY
  have HJ := Lib.hid hJa
  have HI : Hid (l0.length ≤ f0 ∧ rdMs f0 e0 l0 = ([] ++ (rdMs f0 e0 l0).1, (rdMs f0 e0 l0).2) ∧ Tail l0 v.data.toList ∧ Rd W rb a0 c0 l0 e0 ∧ VarsOk B W ∧ W.cell? ⟨b1, 0, none⟩ = some (.pointer (some ⟨rb, 0, none⟩)) ∧ W.cell? ⟨b2, 0, none⟩ = some (.string v) ∧ J [] W ∧ n1 ≤ W.heap.size) := Lib.hid ⟨hf0, by simp, ht, hrd1, hv1, k1, k2, h0, Nat.le_trans hnw hK.size⟩
  clear hrd hrd1 hv hv1 k1 k2 hY hJa h0 hc1 hc2 ht hf0 hK hnw
  refine callsIn_of_wp Tryz.func156 rfl trivial ?_ rfl
  refine wpIn_wide.2 ?_
  simp only [Tryz.ntmps156, List.size_toArray, List.length_cons, List.length_nil, Nat.reduceAdd, Nat.reduceSub, Array.replicate_succ, Array.replicate_zero, List.push_toArray, List.append_toArray, List.nil_append, List.cons_append]
  go_wp2
  go_loopw [] (fun wr => ∃ (f : Nat) (pre : List Mt) (l : List UInt8) (e : Int) (a : Option Addr) (c : Nat), Hid (l.length ≤ f ∧ rdMs f0 e0 l0 = (pre ++ (rdMs f e l).1, (rdMs f e l).2) ∧ Tail l v.data.toList ∧ Rd wr rb a c l e ∧ VarsOk B wr ∧ wr.cell? ⟨b1, 0, none⟩ = some (.pointer (some ⟨rb, 0, none⟩)) ∧ wr.cell? ⟨b2, 0, none⟩ = some (.string v) ∧ J pre wr ∧ n1 ≤ wr.heap.size)) (fun wr => leftN rb wr)
  case atStart => exact ⟨_, _, _, _, _, _, HI⟩
  case round =>
    clear HI
    obtain ⟨f, pre, l, e, a, c, HI⟩ := hrel
    have k1 := HI.out.2.2.2.2.2.1
    have k2 := HI.out.2.2.2.2.2.2.1
    have HMo := Lib.hid (fun n => More_any rb a c l e _ (HI.out.2.2.2.1.drewN n))
    cases hmore : moreB l with
    | false =>
      rw [hmore] at HMo
      have hno : isM l = false := by simp [isM, hmore]
      have HE := Lib.hid (rdMs_stop (f := f) (e := e) hno)
      clear hmore hno
      go_wp2_with fail
      go_quiet ((go_at_call 87; exact Calls.quiet_of_same (HMo.out _)))
      have HF : Hid (J (rdMs f0 e0 l0).1 (wr.drewN nq) ∧ ∃ a c, Rd (wr.drewN nq) rb a c (rdMs f0 e0 l0).2.1 (rdMs f0 e0 l0).2.2) := Lib.hid (by
        have h1 := HI.out.2.1
        rw [HE.out] at h1
        rw [h1]
        simp only [List.append_nil]
        exact ⟨HJ.out _ _ _ HI.out.2.2.2.2.2.2.2.1 (grownBy_drewN _ _ _), a, c, HI.out.2.2.2.1.drewN _⟩)
      clear HI k1 k2 HMo HE
      go_wp2
      go_end0
      exact ⟨⟨_, rfl⟩, HF.out.1, HF.out.2⟩
    | true =>
      rw [hmore] at HMo
      cases l with
      | nil => simp [moreB] at hmore
      | cons x r =>
      obtain ⟨k, hk1, hk2, hk3⟩ := HI.out.2.2.1.next
      have hLe := fun n => Left_any rb a c (x :: r) e _ (HI.out.2.2.2.1.drewN n)
      obtain ⟨m, hm⟩ : ∃ m, m = (x :: r).length := ⟨_, rfl⟩
      rw [← hm] at hLe
      have HLe := Lib.hid hLe
      have hkm : v.size = k + m := by rw [hm]; simpa using hk1
      have hsub : IntKind.i64.wrap ((v.size : Int) - (m : Int)) = (k : Int) := by rw [IntKind.wrap_i64]; omega
      have hkl : (k : Int) < (v.size : Int) := by omega
      have HM := Lib.hid hm
      have HKM := Lib.hid hkm
      clear hLe hm hkm hk1
      by_cases hx : x = 105
      · have hno : isM (x :: r) = false := by subst hx; simp [isM]
        have hv105 : (((v[k]'hk2).toNat : Int) != 105) = false := by rw [hk3, hx]; rfl
        have HE := Lib.hid (rdMs_stop (f := f) (e := e) hno)
        clear hmore hno hx hk3
        go_wp2_with fail
        go_quiet (first | (go_at_call 87; exact Calls.quiet_of_same (HMo.out _)) | (go_at_call 92; exact Calls.quiet_of_same (HLe.out _)))
        have HF : Hid (J (rdMs f0 e0 l0).1 (wr.drewN nq) ∧ ∃ a c, Rd (wr.drewN nq) rb a c (rdMs f0 e0 l0).2.1 (rdMs f0 e0 l0).2.2) := Lib.hid (by
          have h1 := HI.out.2.1
          rw [HE.out] at h1
          rw [h1]
          simp only [List.append_nil]
          exact ⟨HJ.out _ _ _ HI.out.2.2.2.2.2.2.2.1 (grownBy_drewN _ _ _), a, c, HI.out.2.2.2.1.drewN _⟩)
        clear HI k1 k2 HMo HE
        go_wp2
        go_end0
        exact ⟨⟨_, rfl⟩, HF.out.1, HF.out.2⟩
      · have hyes : isM (x :: r) = true := by simp [isM, hmore, hx]
        have hv105 : (((v[k]'hk2).toNat : Int) != 105) = true := by rw [hk3, bne_iff_ne]; exact fun h => hx (UInt8.toNat_inj.1 (show x.toNat = 105 by omega))
        have HYs := Lib.hid hyes
        clear hmore hyes hx hk3
        go_wp2_with fail
        go_quiet (first | (go_at_call 87; exact Calls.quiet_of_same (HMo.out _)) | (go_at_call 92; exact Calls.quiet_of_same (HLe.out _)))
        rename_i K1 hK1 K2 hK2
        have e00 : e = 0 := Classical.byContradiction fun h => by have := HI.out.2.2.2.1.err h; cases this
        subst e00
        rcases h1 : textE 16 0 (x :: r) with ⟨l1, e1, s1⟩
        rcases h2 : intE e1 l1 with ⟨l2, e2, z⟩
        rcases h3 : textE 64 e2 l2 with ⟨l3, e3, s3⟩
        obtain ⟨y, hwz, HR⟩ : ∃ y : Nat, IntKind.u8.wrap z = (y : Int) ∧ Hid (rdMt (x :: r) = (l3, e3, ⟨s1.toArray⟩, y, ⟨s3.toArray⟩)) := ⟨(z % 256).toNat, by rw [IntKind.wrap_u8]; omega, Lib.hid (rdMt_of h1 h2 h3)⟩
        have HTl : Hid (Tail l3 v.data.toList) := Lib.hid (Tail.of (Tail.trans (textE_tail h3) (Tail.trans (intE_tail h2) (Tail.trans (textE_tail h1) (.inr HI.out.2.2.1)))))
        have HT1 := Lib.hid (rText_full rb a c (x :: r) 0 16 B (wr.drewN nq) (HI.out.2.2.2.1.drewN nq) hB (HI.out.2.2.2.2.1.on (drewS _ _ _)) h1)
        have HX := Lib.hid (And.intro h2 h3)
        have q1 : (wr.drewN nq).cell? ⟨b1, 0, none⟩ = some (.pointer (some ⟨rb, 0, none⟩)) := k1
        have HQ1 := Lib.hid q1
        clear h1 h2 h3 hv105 hsub k1 k2
        refine hK2 _ _ (wp_cond_true rfl (wp_skip ?_))
        refine hK1 _ _ ((wpIn_wide (n := n)).1 ?_)
        have HG : Hid (∀ A C : World, A.grownBy C (some rb) → A.cell? ⟨b1, 0, none⟩ = some (.pointer (some ⟨rb, 0, none⟩)) → C.cell? ⟨b1, 0, none⟩ = some (.pointer (some ⟨rb, 0, none⟩))) := Lib.hid (fun A C g h => g.cell h (by simp; omega))
        have HB : Hid (∀ A C : World, A.grownBy C (some rb) → n1 ≤ A.heap.size → VarsOk B A → VarsOk B C ∧ n1 ≤ C.heap.size) := Lib.hid (fun A C g hs h => ⟨h.on (below_of_grownBy g hB (by omega)), Nat.le_trans hs g.size⟩)
        have HV1 : Hid (VarsOk B (wr.drewN nq) ∧ n1 ≤ (wr.drewN nq).heap.size) := Lib.hid ⟨HI.out.2.2.2.2.1.on (drewS _ _ _), HI.out.2.2.2.2.2.2.2.2⟩
        have HJ1 : Hid (J pre (wr.drewN nq) ∧ (wr.drewN nq).cell? ⟨b2, 0, none⟩ = some (.string v)) := Lib.hid ⟨HJ.out _ _ _ HI.out.2.2.2.2.2.2.2.1 (grownBy_drewN _ _ _), HI.out.2.2.2.2.2.2.1⟩
        have HZ : Hid (leftN rb wr = (x :: r).length) := Lib.hid HI.out.2.2.2.1.leftN
        have HY2 : Hid ((x :: r).length ≤ f ∧ rdMs f0 e0 l0 = (pre ++ (rdMs f 0 (x :: r)).1, (rdMs f 0 (x :: r)).2)) := Lib.hid ⟨HI.out.1, HI.out.2.1⟩
        clear HI HMo HLe
        generalize wr.drewN nq = w1 at *
        gi_wp2_with fail
        refine ⟨trivial, (fun h => by cases h), ?_⟩
        refine (callsIn_wide.2 HT1.out).mono ?_
        rintro e w2 ⟨rfl, ⟨a2, c2, r2⟩, g2⟩
        have hv2 := HB.out _ _ g2 HV1.out.2 HV1.out.1
        have q2 := HG.out _ _ g2 q1
        have HT2 := Lib.hid (rInt_full rb a2 c2 l1 e1 B w2 r2 hB hv2.1 HX.out.1)
        have HV2 := Lib.hid hv2
        have HJ2 : Hid (J pre w2 ∧ w2.cell? ⟨b2, 0, none⟩ = some (.string v)) := Lib.hid ⟨HJ.out _ _ _ HJ1.out.1 g2, g2.cell HJ1.out.2 (by simp; omega)⟩
        clear g2 r2 hv2 HT1 q1 HV1 HJ1
        gi_wp2_with fail
        refine ⟨trivial, (fun h => by cases h), ?_⟩
        refine (callsIn_wide.2 HT2.out).mono ?_
        rintro e w3 ⟨rfl, ⟨a3, c3, r3⟩, g3⟩
        have hv3 := HB.out _ _ g3 HV2.out.2 HV2.out.1
        have q3 := HG.out _ _ g3 q2
        have HT3 := Lib.hid (rText_full rb a3 c3 l2 e2 64 B w3 r3 hB hv3.1 HX.out.2)
        have HV3 := Lib.hid hv3
        have HJ3 : Hid (J pre w3 ∧ w3.cell? ⟨b2, 0, none⟩ = some (.string v)) := Lib.hid ⟨HJ.out _ _ _ HJ2.out.1 g3, g3.cell HJ2.out.2 (by simp; omega)⟩
        clear g3 r3 hv3 HT2 q2 HV2 HJ2
        gi_wp2_with fail
        refine ⟨trivial, (fun h => by cases h), ?_⟩
        refine (callsIn_wide.2 HT3.out).mono ?_
        rintro e w4 ⟨rfl, ⟨a4, c4, r4⟩, g4⟩
        have hv4 := HB.out _ _ g4 HV3.out.2 HV3.out.1
        have q4 := HG.out _ _ g4 q3
        have HEr := Lib.hid (Err_any rb a4 c4 l3 e3 w4 r4)
        have HV4 := Lib.hid hv4
        have HJ4 : Hid (J pre w4 ∧ w4.cell? ⟨b2, 0, none⟩ = some (.string v)) := Lib.hid ⟨HJ.out _ _ _ HJ3.out.1 g4, g4.cell HJ3.out.2 (by simp; omega)⟩
        have HR4 := Lib.hid r4
        clear g4 r4 hv4 HT3 q3 HV3 HJ3
        gi_wp2_with fail
        refine ⟨trivial, (fun h => by cases h), ?_⟩
        refine (callsIn_wide.2 HEr.out).mono ?_
        rintro e w5 ⟨rfl, hw5⟩
        subst hw5
        by_cases h3 : e3 = 0
        · subst h3
          obtain ⟨g, hg1, hg2⟩ := rdMs_next (e := 0) HYs.out HR.out HY2.out.1
          have HNx := Lib.hid (And.intro hg1 hg2)
          have hpre : pre ++ [((⟨s1.toArray⟩, y, ⟨s3.toArray⟩) : Mt)] <+: (rdMs f0 e0 l0).1 := by
            rw [HY2.out.2, hg2]
            exact ⟨(rdMs g 0 l3).1, by simp⟩
          obtain ⟨fn, tmps, assign, body, hy, hR⟩ := HY.out pre _ w5 HJ4.out.1 hpre
          dsimp only [encsM] at hy
          clear hg1 hg2 hpre
          gi_wp2_with fail
          refine ⟨(fun h => by cases h), hR.mono ?_⟩
          rintro e W3 ⟨rfl, hJ3, hk3⟩
          have HRel : Hid (l3.length ≤ g ∧ rdMs f0 e0 l0 = ((pre ++ [((⟨s1.toArray⟩, y, ⟨s3.toArray⟩) : Mt)]) ++ (rdMs g 0 l3).1, (rdMs g 0 l3).2) ∧ Tail l3 v.data.toList ∧ Rd W3 rb a4 c4 l3 0 ∧ VarsOk B W3 ∧ W3.cell? ⟨b1, 0, none⟩ = some (.pointer (some ⟨rb, 0, none⟩)) ∧ W3.cell? ⟨b2, 0, none⟩ = some (.string v) ∧ J (pre ++ [((⟨s1.toArray⟩, y, ⟨s3.toArray⟩) : Mt)]) W3 ∧ n1 ≤ W3.heap.size) :=
            Lib.hid ⟨HNx.out.1, by rw [HY2.out.2, HNx.out.2]; simp, HTl.out, HR4.out.keptS hk3 (by omega) hrb, HV4.out.1.on (hk3.below (N := B) (by omega) (by omega)), (hk3.cell hn1 (by omega)).trans q4, (hk3.cell hn2 (by omega)).trans HJ4.out.2, hJ3, Nat.le_trans HV4.out.2 hk3.size⟩
          have HMs : Hid (leftN rb W3 < leftN rb wr) := Lib.hid (by
            rw [HRel.out.2.2.2.1.leftN, HZ.out]
            have h1 := rdMt_less (l := x :: r) (by simp)
            rw [HR.out] at h1
            exact h1)
          clear hJ3 hk3 hR hy HJ4 HR4 HV4 q4 HNx HY2
          gi_wp2_with fail
          go_roundw
          case rel => exact ⟨_, _, _, _, _, _, HRel⟩
          case measure => exact HMs.out
        · have HN := Lib.hid h3
          have hb3 : ((e3 : Int) != 0) = true := by simpa using h3
          have HF : Hid (J (rdMs f0 e0 l0).1 w5 ∧ ∃ a c, Rd w5 rb a c (rdMs f0 e0 l0).2.1 (rdMs f0 e0 l0).2.2) := Lib.hid (by
            rw [HY2.out.2, rdMs_bad HYs.out HR.out h3 HY2.out.1]
            simp only [List.append_nil]
            exact ⟨HJ4.out.1, a4, c4, HR4.out⟩)
          clear h3 HJ4 HR4 HV4 HEr
          gi_wp2_with fail
          refine ⟨fun _ h => (by cases h), ?_⟩
          gi_wp2_with fail
          refine bodyPost_ret (results_none rfl _ _ _) rfl ?_
          exact ⟨⟨_, rfl⟩, HF.out.1, HF.out.2⟩

attribute [local go_sem] Oper.semAt_some

theorem bytes_of_strS (w : World) (s : ByteArray) : ∃ a c w', (convert 9 111 (.string s)).run Tryz.prog w = .ok (.slice (some a) s.size c) w' ∧ SrcAt w' (.slice (some a) s.size c) s.data.toList ∧ Below w.heap.size w w' := by
  refine ⟨⟨w.heap.size, 0, none⟩, _, _, Lib.run_convert_string_bytes w 9 111 5 s Tryz.underlying9 Tryz.underlying111 Tryz.underlying5, .inr ⟨_, _, rfl, fun i hi => ?_⟩, Lib.bytesWorld_below _ _ _⟩
  rw [Go.WideShapes.add_plain, Nat.zero_add, Lib.bytesWorld_cell w 5 s i (by show i < s.data.size; simpa using hi)]
  rw [List.getD_eq_getElem?_getD, List.getElem?_eq_getElem hi]
  rfl

/-- The cells of matchers. -/
def cellsMs (ms : List Mt) : List Value := ms.flatMap encM
theorem cellsMs_len : ∀ L : List Mt, (cellsMs L).length = L.length * 3
  | [] => rfl
  | p :: r => by
    have := cellsMs_len r
    simp only [cellsMs, List.flatMap_cons, List.length_append, List.length_cons] at *
    rw [this]
    simp [encM]
    omega
theorem cellsMs_append (L M : List Mt) : cellsMs (L ++ M) = cellsMs L ++ cellsMs M := List.flatMap_append
theorem cellsMs_get : ∀ (L : List Mt) (i : Nat) (hi : i < L.length) (j : Nat) (v : Value), (encM L[i])[j]? = some v → (cellsMs L)[i * 3 + j]? = some v
  | p :: r, 0, _, j, v, hv => by
    have e : cellsMs (p :: r) = encM p ++ cellsMs r := rfl
    have hv' : (encM p)[j]? = some v := hv
    have hj := (List.getElem?_eq_some_iff.1 hv').1
    rw [e, Nat.zero_mul, Nat.zero_add, List.getElem?_append_left hj]
    exact hv'
  | p :: r, i + 1, hi, j, v, hv => by
    have := cellsMs_get r i (by simpa using hi) j v hv
    have e : cellsMs (p :: r) = encM p ++ cellsMs r := rfl
    have l : (encM p).length = 3 := rfl
    rw [e, List.getElem?_append_right (by omega), l, show (i + 1) * 3 + j - 3 = i * 3 + j by omega]
    exact this
/-- Matchers in a row of the call's own. -/
def OwnSm (w : World) (B : Nat) (v : Value) (ms : List Mt) : Prop := w.ownsRow B 131 3 v ms.length (cellsMs ms)
theorem infoMt : (Tryz.prog.info? 131).map (fun i => (i.zero, i.size, i.bytes)) = some (some (.agg #[.string ⟨#[]⟩, .int .u8 0, .string ⟨#[]⟩]), 3, 40) := by kernel_rfl
theorem OwnSm.at {w : World} {B : Nat} {a : Option Addr} {n c : Nat} {ms : List Mt} (h : OwnSm w B (.slice a n c) ms) : n = ms.length ∧ MtsAt w a ms := by
  rcases h.2 with ⟨e, h0⟩ | ⟨g, cap, cur, e, hg0, hg1, hcap, hmax, hcs, htk⟩
  · simp only [Value.slice.injEq] at e
    exact ⟨by omega, fun hn => by omega⟩
  · simp only [Value.slice.injEq] at e
    obtain ⟨rfl, rfl, rfl⟩ := e
    refine ⟨rfl, fun hn => ⟨g, 0, rfl, ltE hg1, fun i hi => ?_⟩⟩
    have hc : ∀ j v, (encM ms[i])[j]? = some v → w.cell? ⟨g, 0 + i * 3 + j, none⟩ = some v := fun j v hv => by
      have hj := (List.getElem?_eq_some_iff.1 hv).1
      have l3 : (encM ms[i]).length = 3 := rfl
      rw [Nat.zero_add, World.ownsRow.cellAt h _ (by omega)]
      exact cellsMs_get ms i hi j v hv
    exact ⟨hc 0 _ rfl, hc 1 _ rfl, hc 2 _ rfl⟩

set_option maxHeartbeats 1000000 in
/-- matchers(r, value): the reader and the text are boxed, the function has both. -/
theorem smatchers_any (rb : Nat) (v : ByteArray) (w : World) :
    Calls Tryz.prog 124 #[.pointer (some ⟨rb, 0, none⟩), .string v] w fun e w' => e = .returned (.func (.func 156) #[] #[.pointer (some ⟨w.heap.size, 0, none⟩), .pointer (some ⟨w.heap.size + 1, 0, none⟩)]) ∧ w' = (w.alloc (.cells #[.pointer (some ⟨rb, 0, none⟩)] 139)).alloc (.cells #[.string v] 9) := by
  go_enter Tryz.func124, Tryz.ntmps124
  go_wp2
  go_ret
  exact ⟨by simp, rfl⟩

theorem rdMs_len : ∀ (f : Nat) (e : Int) (l : List UInt8), (rdMs f e l).1.length ≤ f
  | 0, _, _ => Nat.le_refl _
  | f + 1, e, l => by
    unfold rdMs
    split
    · split
      · have := rdMs_len f 0 (rdMt l).1
        simp only [List.length_cons]
        omega
      · simp
    · simp
theorem SBlk.set1 {w : World} {B : Nat} {id : ByteArray} {a : Option Addr} {n c : Nat} {st en : Int} (h : SBlk w B id a n c st en) (a' : Option Addr) (n' c' : Nat) : SBlk (w.setCell ⟨B, 1, none⟩ (.slice a' n' c')) B id a' n' c' st en := by
  unfold SBlk at h ⊢
  simp [World.setCell, Array.getElem?_modify, h]
theorem SBlk.set2 {w : World} {B : Nat} {id : ByteArray} {a : Option Addr} {n c : Nat} {st en : Int} (h : SBlk w B id a n c st en) (st' : Int) : SBlk (w.setCell ⟨B, 2, none⟩ (.int .i64 st')) B id a n c st' en := by
  unfold SBlk at h ⊢
  simp [World.setCell, Array.getElem?_modify, h]
theorem SBlk.set3 {w : World} {B : Nat} {id : ByteArray} {a : Option Addr} {n c : Nat} {st en : Int} (h : SBlk w B id a n c st en) (en' : Int) : SBlk (w.setCell ⟨B, 3, none⟩ (.int .i64 en')) B id a n c st en' := by
  unfold SBlk at h ⊢
  simp [World.setCell, Array.getElem?_modify, h]
theorem SBlk.set0 {w : World} {B : Nat} {id : ByteArray} {a : Option Addr} {n c : Nat} {st en : Int} (h : SBlk w B id a n c st en) (id' : ByteArray) : SBlk (w.setCell ⟨B, 0, none⟩ (.string id')) B id' a n c st en := by
  unfold SBlk at h ⊢
  simp [World.setCell, Array.getElem?_modify, h]
/-- What lies between two rounds: the silence's box, and its matchers in a row of the call's own. -/
def InS (w0 : World) (n1 sB : Nat) (pre : List Mt) (W : World) : Prop := ∃ a c, SBlk W sB ⟨#[]⟩ a pre.length c 0 0 ∧ OwnSm W n1 (.slice a pre.length c) pre ∧ Below w0.heap.size w0 W ∧ SBlk W w0.heap.size ⟨#[]⟩ none 0 0 0 0
theorem putObj_below {n1 : Nat} (W : World) (l : Nat) (o' : Obj) (hl : n1 ≤ l) (h : l < W.heap.size) : Below n1 W (W.putObj l o') :=
  (Below.refl n1 W).grown (grownBy_putObj' W l o') (by omega) (fun k e => by cases e; exact hl)
theorem InS.put {w0 : World} {n1 sB : Nat} {pre : List Mt} {W : World} (h : InS w0 n1 sB pre W) (h0 : w0.heap.size < n1) (hs : sB < n1) {l : Nat} {o : Obj} (o' : Obj) (hl : n1 ≤ l) (hg : W.heap[l]? = some o) (ho : o.isCells = false) : InS w0 n1 sB pre (W.putObj l o') := by
  obtain ⟨a, c, h1, h2, h3, h4⟩ := h
  exact ⟨a, c, (World.putObj_heap_other (by omega)).trans h1, ownsRow_putObj h2 o' hg ho, h3.trans (putObj_below W l o' (by omega) (ltE hg)), (World.putObj_heap_other (by omega)).trans h4⟩
theorem InS.turn {w0 : World} {n1 sB rb : Nat} {pre : List Mt} {A B : World} (h : InS w0 n1 sB pre A) (hr0 : w0.heap.size < rb) (hrs : rb < sB) (hs : sB < n1) (g : A.grownBy B (some rb)) : InS w0 n1 sB pre B := by
  obtain ⟨a, c, h1, h2, h3, h4⟩ := h
  refine ⟨a, c, (g.block sB h1.lt (by simp; omega)).trans h1, World.ownsRow.kept h2 g (.inr fun e => ?_), h3.grown g h3.size (fun k e => by cases e; omega), (g.block w0.heap.size h4.lt (by simp; omega)).trans h4⟩
  have := (World.ownsRow.lt h2 rb e).1
  omega
theorem InS.on {w0 : World} {n1 sB : Nat} {pre : List Mt} {A B : World} (h : InS w0 n1 sB pre A) (d : Below A.heap.size A B) : InS w0 n1 sB pre B := by
  obtain ⟨a, c, h1, h2, h3, h4⟩ := h
  exact ⟨a, c, h1.on d, World.ownsRow.kept h2 (grownBy_of_below (r := none) d) (by cases hv : (Value.slice a pre.length c).ownBlock <;> simp), h3.trans (d.mono h3.size), h4.on d⟩

set_option maxRecDepth 100000 in
set_option maxHeartbeats 4000000 in
theorem sread_any (v : ByteArray) (hvs : v.size ≤ 1048576) (B : Nat) (w : World) (hB : B ≤ w.heap.size) (hv : VarsOk B w) (ms : List Mt) (st en : Int) (hr : readS v.data.toList = (ms, st, en)) :
    Calls Tryz.prog 75 #[.string v] w fun e w' => ∃ a c, e = .returned (.agg #[.string ⟨#[]⟩, .slice a ms.length c, .int .i64 st, .int .i64 en]) ∧ MtsAt w' a ms ∧ (∀ q, a = some q → w.heap.size ≤ q.block) ∧ Below w.heap.size w w' := by
  obtain ⟨i0, hi, hz0, hz1, hz2⟩ := info_parts infoMt
  refine (callsIn_wide (n := 6)).1 ?_
  refine callsIn_of_wp_marks Tryz.func75 rfl trivial ?_ rfl
  refine wpIn_wide.2 ?_
  simp only [Tryz.ntmps75, List.size_toArray, List.length_cons, List.length_nil, Nat.reduceAdd, Nat.reduceSub, Array.replicate_succ, Array.replicate_zero, List.push_toArray, List.append_toArray, List.nil_append, List.cons_append]
  have d1 := (Below.refl w.heap.size w).alloc (Nat.le_refl _) (.cells #[.string ⟨#[]⟩, .slice none 0 0, .int .i64 0, .int .i64 0] 55)
  obtain ⟨pa, pc, w1, hcv, hsrc, q1⟩ := bytes_of_strS (w.alloc (.cells #[.string ⟨#[]⟩, .slice none 0 0, .int .i64 0, .int .i64 0] 55)) v
  have hN := New_any (.slice (some pa) v.size pc) v.data.toList w1 hsrc (by show v.size ≤ _; omega)
  have HN := Lib.hid hN
  have b1 : SBlk w1 w.heap.size ⟨#[]⟩ none 0 0 0 0 := (SBlk.new w _ _ _ _ _ _).on q1
  have HD1 := Lib.hid (And.intro b1 (d1.trans (q1.mono d1.size)))
  clear d1 hN hsrc q1 b1
  go_wp2_with (go_at_call 85; refine HN.out.mono ?_; rintro e w2 ⟨rb, a2, c2, rfl, r2, hrb, -, q2⟩; refine Hid.out ?_)
  refine Lib.hid ?_
  obtain ⟨b1, D1⟩ := HD1.out
  have d3 := (Below.refl w2.heap.size w2).alloc (Nat.le_refl _) (.cells #[.string ⟨#[]⟩, .slice none 0 0, .int .i64 0, .int .i64 0] 55)
  rcases h0 : byteE 108 0 v.data.toList with ⟨l0, e0⟩
  have HO := Lib.hid (Open_full rb a2 c2 v.data.toList 0 _ (r2.below d3) h0)
  have bS := SBlk.new w2 ⟨#[]⟩ none 0 0 0 0
  have bR : SBlk (w2.alloc (.cells #[.string ⟨#[]⟩, .slice none 0 0, .int .i64 0, .int .i64 0] 55)) w.heap.size ⟨#[]⟩ none 0 0 0 0 := (b1.on q2).on d3
  have D3 : Below w.heap.size w (w2.alloc (.cells #[.string ⟨#[]⟩, .slice none 0 0, .int .i64 0, .int .i64 0] 55)) := (D1.trans (q2.mono D1.size)).trans (d3.mono (Nat.le_trans D1.size q2.size))
  have hwr : w.heap.size < rb := Nat.lt_of_lt_of_le b1.lt hrb
  have hrs : rb < w2.heap.size := r2.blk.lt
  have HF3 := Lib.hid (And.intro bS (And.intro bR D3))
  have HL := Lib.hid (And.intro hwr hrs)
  clear b1 D1 d3 bS bR D3 hwr hrs q2 r2 hrb HN HD1 hcv
  go_wp2_with (go_at_call 86; refine HO.out.mono ?_; rintro e w4 ⟨rfl, ⟨a4, c4, r4⟩, g4⟩; refine Hid.out ?_)
  refine Lib.hid ?_
  obtain ⟨bS, bR, D3⟩ := HF3.out
  obtain ⟨hwr, hrs⟩ := HL.out
  generalize hsB : w2.heap.size = sB at *
  clear hsB
  have bS4 : SBlk w4 sB ⟨#[]⟩ none 0 0 0 0 := (g4.block sB bS.lt (by simp; omega)).trans bS
  have bR4 : SBlk w4 w.heap.size ⟨#[]⟩ none 0 0 0 0 := (g4.block w.heap.size bR.lt (by simp; omega)).trans bR
  have D4 : Below w.heap.size w w4 := D3.grown g4 D3.size (fun k e => by cases e; omega)
  have HM := Lib.hid (smatchers_any rb v w4)
  have HF4 := Lib.hid (And.intro bS4 (And.intro bR4 (And.intro D4 r4)))
  clear bS bR D3 bS4 bR4 D4 g4 r4 HO HF3
  go_wp2_with (go_at_call 124; refine HM.out.mono ?_; rintro e w5 ⟨rfl, hw5⟩; replace hw5 := Lib.hid hw5; refine Hid.out ?_)
  refine Lib.hid ?_
  replace hw5 := hw5.out
  obtain ⟨bS4, bR4, D4, r4⟩ := HF4.out
  have d5 : Below w4.heap.size w4 w5 := by rw [hw5]; exact ((Below.refl _ _).alloc (Nat.le_refl _) _).alloc (by simp) _
  have z5 : w5.heap.size = w4.heap.size + 2 := by rw [hw5]; simp
  have k1 : w5.cell? ⟨w4.heap.size, 0, none⟩ = some (.pointer (some ⟨rb, 0, none⟩)) := by rw [hw5, ((Below.refl (w4.alloc _).heap.size (w4.alloc _)).alloc (Nat.le_refl _) _).cell (p := ⟨w4.heap.size, 0, none⟩) (by simp)]; exact cellE (newE _ _)
  have k2 : w5.cell? ⟨w4.heap.size + 1, 0, none⟩ = some (.string v) := by
    have := cellE (j := 0) (newE (w4.alloc (.cells #[.pointer (some ⟨rb, 0, none⟩)] 139)) (.cells #[.string v] 9))
    rw [World.size_alloc] at this
    rw [hw5]
    exact this
  have hsB4 : sB < w4.heap.size := bS4.lt
  have D5 : Below w.heap.size w w5 := D4.trans (d5.mono D4.size)
  have bS5 := bS4.on d5
  have bR5 := bR4.on d5
  have r5 := r4.below d5
  have ht : Tail l0 v.data.toList := by
    by_cases h1 : e0 = 0
    · subst h1
      cases hq : v.data.toList with
      | nil => rw [hq] at h0; simp [byteE, rdByte] at h0
      | cons x l =>
        rw [hq] at h0
        simp only [byteE, rdByte, if_true] at h0
        split at h0
        · simp only [Prod.mk.injEq, and_true] at h0
          exact ⟨[x], by rw [h0]; rfl⟩
        · simp at h0
    · rw [(byteE_err h0).1 h1]
      exact Tail.nil _
  have hf0 : l0.length ≤ v.data.toList.length := (byteE_err h0).2
  have hseq := smatchers1_in (6 - 1) v rb w4.heap.size (w4.heap.size + 1) w5.heap.size sB B (by omega) hrs hsB4 (by omega) (by omega) (by omega) w5 a4 c4 l0 e0 r5 ht (by omega) (hv.on (D5.mono hB)) k1 k2 v.data.toList.length hf0 (Nat.le_refl _)
  rcases h1 : rdMs v.data.toList.length e0 l0 with ⟨ms1, l1, e1⟩
  rw [h1] at hseq
  have hI0 : InS w w5.heap.size sB [] w5 := ⟨none, 0, bS5, World.ownsRow_nil _ _ _ _, D5, bR5⟩
  have hlen : ms1.length ≤ 1048576 := by
    have := rdMs_len v.data.toList.length e0 l0
    rw [h1] at this
    exact Nat.le_trans this hvs
  have HX := Lib.hid (And.intro h0 (And.intro h1 (And.intro hr (And.intro bR5 (And.intro hB hv)))))
  have hn5 : w.heap.size < w5.heap.size := by omega
  have hsn : sB < w5.heap.size := by omega
  have hz45 : w4.heap.size + 2 ≤ w5.heap.size := by omega
  clear z5
  clear h0 h1 hr bR5 k1 k2 d5 hw5 bS4 bR4 D4 r4 ht hf0 r5 bS5 D5 HF4 HM hv
  go_wp2_with fail
  refine (wpIn_wide (n := 6)).1 ?_
  refine wpIn_rangeR rfl (by decide) (gf := 156) (lb := #[.pointer (some ⟨w4.heap.size, 0, none⟩), .pointer (some ⟨w4.heap.size + 1, 0, none⟩)]) rfl trivial (enters_of Tryz.func156 (by kernel_rfl) rfl)
    hseq (fun h k => h.trans k) (fun W l o o' hl hg _ => KpS.of_below (putObj_below W l o' hl (ltE hg))) (fun o o' => KpS.of_below (((Below.refl _ _).alloc (Nat.le_refl _) _).alloc (by simp) _))
    (fun x => by simp [encsM])
    (InS w w5.heap.size sB) (fun s W l o o' h hl hg ho => h.put hn5 hsn o' hl hg ho)
    (fun o o' => hI0.on (((Below.refl w5.heap.size w5).alloc (Nat.le_refl _) o).alloc (by simp) o'))
    (fun s A C h g => h.turn hwr hrs hsn g)
    (fun A C k g hk hl => g.block k hl (by simp; omega))
    (fun W l o o' ⟨a, c, h⟩ hl hg ho => ⟨a, c, h.mono (grownBy_putObj' W l o') (by simp; omega) (fun p hp => by have := h.away p hp; simp; omega)⟩)
    (fun x a' W => ∃ Bx, w5.heap.size ≤ Bx ∧ MtBlk W Bx x ∧ a' = { tmps := #[.string v, undef, .pointer (some ⟨w.heap.size, 0, none⟩), .pointer (some ⟨rb, 0, none⟩), .pointer (some ⟨sB, 0, none⟩), .pointer (some ⟨Bx, 0, none⟩), .string v, .slice (some pa) v.size pc, .pointer (some ⟨rb, 0, none⟩), .pointer (some ⟨rb, 0, none⟩), .tuple #[], .pointer (some ⟨rb, 0, none⟩), .string v, .func (.func 156) #[] #[.pointer (some ⟨w4.heap.size, 0, none⟩), .pointer (some ⟨w4.heap.size + 1, 0, none⟩)], .agg #[.string x.1, .int .u8 (x.2.1 : Int), .string x.2.2], undef, undef, undef, undef, undef, undef, undef, undef, undef, undef, undef, undef, undef], defers := [] })
    (fun x a' W l o o' ⟨Bx, hbx, hm, ha⟩ hl hg ho => ⟨Bx, hbx, (World.putObj_heap_other (fun e => by subst e; unfold MtBlk at hm; rw [hg] at hm; cases hm; cases ho)).trans hm, ha⟩)
    ?assign ?body ?done
  case assign =>
    intro l pre x W K hI hsz hpre hK
    obtain ⟨xn, xo, xv⟩ := x
    have dW := (Below.refl W.heap.size W).alloc (Nat.le_refl _) (.cells #[.string xn, .int .u8 (xo : Int), .string xv] 131)
    have hI' : InS w w5.heap.size sB pre (W.alloc (.cells #[.string xn, .int .u8 (xo : Int), .string xv] 131)) := hI.on dW
    have hK' := hK { tmps := #[.string v, undef, .pointer (some ⟨w.heap.size, 0, none⟩), .pointer (some ⟨rb, 0, none⟩), .pointer (some ⟨sB, 0, none⟩), .pointer (some ⟨W.heap.size, 0, none⟩), .string v, .slice (some pa) v.size pc, .pointer (some ⟨rb, 0, none⟩), .pointer (some ⟨rb, 0, none⟩), .tuple #[], .pointer (some ⟨rb, 0, none⟩), .string v, .func (.func 156) #[] #[.pointer (some ⟨w4.heap.size, 0, none⟩), .pointer (some ⟨w4.heap.size + 1, 0, none⟩)], .agg #[.string xn, .int .u8 (xo : Int), .string xv], undef, undef, undef, undef, undef, undef, undef, undef, undef, undef, undef, undef, undef], defers := [] } (W.alloc (.cells #[.string xn, .int .u8 (xo : Int), .string xv] 131)) ((KeepsOthers.alloc _ _).from _) (KpS.of_below (dW.mono (by omega))) hI' ⟨W.heap.size, by omega, newE _ _, rfl⟩
    clear hI hI' dW hK
    simp only [encsM]
    gi_wp2
    exact hK'
  case body =>
    rintro l pre ⟨xn, xo, xv⟩ a' W ⟨a, c, h1, h2, h3, h4⟩ hsz hpre ⟨Bx, hbx, hm, rfl⟩
    have hpl : pre.length < 1048576 := by
      obtain ⟨t, ht⟩ := hpre
      have := congrArg List.length ht
      simp at this
      omega
    have k1 := h1.c1
    have m0 : W.cell? ⟨Bx, 0, none⟩ = some (.string xn) := hm.cell0
    have m1 : W.cell? ⟨Bx, 1, none⟩ = some (.int .u8 (xo : Int)) := hm.cell1
    have m2 : W.cell? ⟨Bx, 2, none⟩ = some (.string xv) := hm.cell2
    have hown := World.ownsRow.alloc h2 (.cells #[.string xn, .int .u8 (xo : Int), .string xv] 131)
    have dW := (Below.refl W.heap.size W).alloc (Nat.le_refl _) (.cells #[.string xn, .int .u8 (xo : Int), .string xv] 131)
    have hz : w5.heap.size ≤ (W.alloc (.cells #[.string xn, .int .u8 (xo : Int), .string xv] 131)).heap.size := by simp; omega
    have HB := Lib.hid (And.intro h1 (And.intro h2 (And.intro h3 dW)))
    have HR := Lib.hid h4
    have HPL := Lib.hid hpl
    clear h1 h2 h3 h4 hm hpre dW hI0 hseq
    gi_wp2_with (gi_at_builtin; refine Hid.out ?_)
    refine Lib.hid ?_
    refine wpListIn_append_own _ rfl _ _ 48 rfl w5.heap.size 131 i0 (.agg #[.string ⟨#[]⟩, .int .u8 0, .string ⟨#[]⟩]) 3 40 Tryz.underlying48 hi hz0 hz1 hz2 rfl (by decide) _ _ _ rfl hown ⟨W.heap.size, 0, none⟩ 1 1 [.string xn, .int .u8 (xo : Int), .string xv] rfl rfl (World.news_of_block (cs := #[.string xn, .int .u8 (xo : Int), .string xv]) (newE _ _)) (by intro u' hu'; simp at hu'; rcases hu' with rfl | rfl | rfl <;> rfl) (by have := HPL.out; unfold maxLen; omega) (by have := HPL.out; omega) hz ?_
    intro v' w6 hown6 hg6 _
    obtain ⟨g', cap', rfl⟩ := ownsRow_succ hown6
    have bs6 : SBlk w6 sB ⟨#[]⟩ a pre.length c 0 0 := (hg6.block sB (Nat.lt_of_lt_of_le HB.out.1.lt HB.out.2.2.2.size) (fun e => by have h9 := (World.ownsRow.lt HB.out.2.1 sB e.symm).1; omega)).trans (HB.out.1.on HB.out.2.2.2)
    have c6 := bs6.c1
    have f6 := bs6.f 1
    gi_wp2_with fail
    obtain ⟨h1, h2, h3, dW⟩ := HB.out
    have hne : ∀ j, (Value.slice a pre.length c).ownBlock = some j → w5.heap.size ≤ j := fun j hj => (World.ownsRow.lt h2 j hj).1
    have hge : w5.heap.size ≤ g' := (World.ownsRow.lt hown6 g' rfl).1
    have D6 : Below w5.heap.size W w6 := (dW.mono (by omega)).grown hg6 hz hne
    refine ⟨⟨?_, ?_⟩, ?_, some ⟨g', 0, none⟩, cap', ?_, ?_, ?_, ?_⟩
    · have := D6.size
      simpa using this
    · intro k o hk ho hoc
      have hlt := ltE ho
      refine (Below.heap_setCell _ _ _ _ (by show k ≠ sB; omega)).trans ?_
      refine (hg6.block k (Nat.lt_of_lt_of_le hlt dW.size) (fun e => ?_)).trans ((dW.block k hlt).trans ho)
      rcases h2.2 with ⟨hv', _⟩ | ⟨g, cap, cur, hv', -, hgc, -⟩
      · rw [hv'] at e; cases e
      · rw [hv'] at e
        obtain rfl := Option.some.inj e
        have hgc' : W.heap[k]? = some (.cells cur 131 (0, 0)) := hgc
        rw [hgc'] at ho
        cases ho
        cases hoc
    · refine ⟨D6.os, D6.tape, D6.output, by have := D6.size; simpa using this, fun k hk hs => ?_⟩
      exact (Below.heap_setCell _ _ _ _ hs).trans (D6.block k hk)
    · have := bs6.set1 (some ⟨g', 0, none⟩) (pre.length + 1) cap'
      simpa using this
    · have e : cellsMs (pre ++ [(xn, xo, xv)]) = cellsMs pre ++ [.string xn, .int .u8 (xo : Int), .string xv] := by rw [cellsMs_append]; rfl
      unfold OwnSm
      rw [e, List.length_append]
      exact World.ownsRow.kept hown6 (grownBy_setCell w6 sB 1 _) (.inr (by simp [Value.ownBlock]; omega))
    · refine Below.setCell (h3.trans (D6.mono (by omega))) ?_ _
      show w.heap.size ≤ sB
      omega
    · exact (Below.heap_setCell _ _ _ _ (by show w.heap.size ≠ sB; omega)).trans ((D6.block w.heap.size hn5).trans HR.out)
  case done =>
    rintro D W hD ⟨aS, cS, h1, h2, h3, h4⟩ ⟨ar, cr, hrd⟩ hK
    obtain ⟨g0, g1, gr, -, hB', hv⟩ := HX.out
    rcases j2 : intE e1 l1 with ⟨l2, e2, z2⟩
    rcases j3 : intE e2 l2 with ⟨l3, e3, z3⟩
    have hres := gr.symm.trans (readS_of g0 g1 j2 j3)
    simp only [Prod.mk.injEq] at hres
    obtain ⟨rfl, rfl, rfl⟩ := hres
    have HI1 := Lib.hid (rInt_full rb ar cr l1 e1 B W hrd (by omega) (hv.on (h3.mono hB')) j2)
    have HJ := Lib.hid (And.intro j3 hv)
    have HZ := Lib.hid (And.intro h1 (And.intro h2 (And.intro h3 (And.intro h4 hK))))
    have HLn : Hid (D < W.heap.size ∧ sB < W.heap.size) := Lib.hid ⟨ltE hK, h1.lt⟩
    clear g0 g1 gr j2 j3 hv hB' h1 h2 h3 h4 hrd HX hseq hI0 hK
    dsimp only
    go_wp2_with (go_at_call 89; refine HI1.out.mono ?_; rintro e w6 ⟨rfl, ⟨a6, c6, r6⟩, g6⟩; refine Hid.out ?_)
    refine Lib.hid ?_
    obtain ⟨h1, h2, h3, h4, hK⟩ := HZ.out
    have b6 : SBlk w6 sB ⟨#[]⟩ aS ms.length cS 0 0 := (g6.block sB h1.lt (by simp; omega)).trans h1
    have o6 : OwnSm w6 w5.heap.size (.slice aS ms.length cS) ms := World.ownsRow.kept h2 g6 (.inr fun e => by have := (World.ownsRow.lt h2 rb e).1; omega)
    have D6 : Below w.heap.size w w6 := h3.grown g6 h3.size (fun k e => by cases e; omega)
    have R6 : SBlk w6 w.heap.size ⟨#[]⟩ none 0 0 0 0 := (g6.block w.heap.size h4.lt (by simp; omega)).trans h4
    have K6 : w6.heap[D]? = some (.deferred (some [])) := (g6.block D (ltE hK) (by simp; omega)).trans hK
    have q6 := b6.c2
    have f6 := b6.f 2
    have gs := grownBy_setCell w6 sB 2 (.int .i64 st)
    have r7 := r6.mono gs (by simp; omega) (fun p hp => by have := r6.away p hp; simp; omega)
    have b7 := b6.set2 st
    have o7 : OwnSm (w6.setCell ⟨sB, 2, none⟩ (.int .i64 st)) w5.heap.size (.slice aS ms.length cS) ms := World.ownsRow.kept o6 gs (.inr fun e => by have := (World.ownsRow.lt o6 sB e).1; omega)
    have D7 : Below w.heap.size w (w6.setCell ⟨sB, 2, none⟩ (.int .i64 st)) := D6.setCell (p := ⟨sB, 2, none⟩) (by show w.heap.size ≤ sB; omega) _
    have R7 : SBlk (w6.setCell ⟨sB, 2, none⟩ (.int .i64 st)) w.heap.size ⟨#[]⟩ none 0 0 0 0 := (gs.block w.heap.size R6.lt (by simp; omega)).trans R6
    have K7 : (w6.setCell ⟨sB, 2, none⟩ (.int .i64 st)).heap[D]? = some (.deferred (some [])) := (gs.block D (ltE K6) (by simp; omega)).trans K6
    have HI2 := Lib.hid (rInt_full rb a6 c6 l2 e2 B (w6.setCell ⟨sB, 2, none⟩ (.int .i64 st)) r7 (by omega) (HJ.out.2.on (D7.mono hB)) HJ.out.1)
    have HZ2 := Lib.hid (And.intro b7 (And.intro o7 (And.intro D7 (And.intro R7 K7))))
    clear h1 h2 h3 h4 hK b6 o6 D6 R6 K6 gs r6 r7 b7 o7 D7 R7 K7 g6 HI1 HZ HLn HJ
    go_wp2_with (go_at_call 89; refine HI2.out.mono ?_; rintro e w8 ⟨rfl, ⟨a8, c8, r8⟩, g8⟩; refine Hid.out ?_)
    refine Lib.hid ?_
    obtain ⟨h1, h2, h3, h4, hK⟩ := HZ2.out
    have b8 : SBlk w8 sB ⟨#[]⟩ aS ms.length cS st 0 := (g8.block sB h1.lt (by simp; omega)).trans h1
    have o8 : OwnSm w8 w5.heap.size (.slice aS ms.length cS) ms := World.ownsRow.kept h2 g8 (.inr fun e => by have := (World.ownsRow.lt h2 rb e).1; omega)
    have D8 : Below w.heap.size w w8 := h3.grown g8 h3.size (fun k e => by cases e; omega)
    have R8 : SBlk w8 w.heap.size ⟨#[]⟩ none 0 0 0 0 := (g8.block w.heap.size h4.lt (by simp; omega)).trans h4
    have K8 : w8.heap[D]? = some (.deferred (some [])) := (g8.block D (ltE hK) (by simp; omega)).trans hK
    clear q6 f6
    have q6 := b8.c3
    have f6 := b8.f 3
    have gs := grownBy_setCell w8 sB 3 (.int .i64 en)
    have b9 := b8.set3 en
    have o9 : OwnSm (w8.setCell ⟨sB, 3, none⟩ (.int .i64 en)) w5.heap.size (.slice aS ms.length cS) ms := World.ownsRow.kept o8 gs (.inr fun e => by have := (World.ownsRow.lt o8 sB e).1; omega)
    have D9 : Below w.heap.size w (w8.setCell ⟨sB, 3, none⟩ (.int .i64 en)) := D8.setCell (p := ⟨sB, 3, none⟩) (by show w.heap.size ≤ sB; omega) _
    have R9 : SBlk (w8.setCell ⟨sB, 3, none⟩ (.int .i64 en)) w.heap.size ⟨#[]⟩ none 0 0 0 0 := (gs.block w.heap.size R8.lt (by simp; omega)).trans R8
    have K9 : (w8.setCell ⟨sB, 3, none⟩ (.int .i64 en)).heap[D]? = some (.deferred (some [])) := (gs.block D (ltE K8) (by simp; omega)).trans K8
    have u0 := b8.c0
    have u1 := b8.c1
    have u2 := b8.c2
    have x0 := R8.c0
    have x1 := R8.c1
    have x2 := R8.c2
    have x3 := R8.c3
    have y0 := R8.f 0
    have y1 := R8.f 1
    have y2 := R8.f 2
    have y3 := R8.f 3
    have n1 : ¬ w.heap.size = sB := by omega
    have n2 : ¬ sB = w.heap.size := by omega
    have HE := Lib.hid (And.intro o9 (And.intro D9 (And.intro R9 K9)))
    clear h1 h2 h3 h4 hK b8 b9 o9 D9 R9 K9 o8 D8 R8 K8 gs r8 g8 HI2 HZ2
    go_wp2_with fail
    obtain ⟨o9, D9, R9, K9⟩ := HE.out
    obtain ⟨WF, hWF⟩ : ∃ WF, WF = ((((w8.setCell ⟨sB, 3, none⟩ (.int .i64 en)).setCell ⟨w.heap.size, 0, none⟩ (.string ⟨#[]⟩)).setCell ⟨w.heap.size, 1, none⟩ (.slice aS ms.length cS)).setCell ⟨w.heap.size, 2, none⟩ (.int .i64 st)).setCell ⟨w.heap.size, 3, none⟩ (.int .i64 en) := ⟨_, rfl⟩
    have RF : SBlk WF w.heap.size ⟨#[]⟩ aS ms.length cS st en := by rw [hWF]; exact (((R9.set0 ⟨#[]⟩).set1 aS ms.length cS).set2 st).set3 en
    have DF : Below w.heap.size w WF := by rw [hWF]; exact (((D9.setCell (p := ⟨w.heap.size, 0, none⟩) (Nat.le_refl _) _).setCell (p := ⟨w.heap.size, 1, none⟩) (Nat.le_refl _) _).setCell (p := ⟨w.heap.size, 2, none⟩) (Nat.le_refl _) _).setCell (p := ⟨w.heap.size, 3, none⟩) (Nat.le_refl _) _
    have g9 : (w8.setCell ⟨sB, 3, none⟩ (.int .i64 en)).grownBy WF (some w.heap.size) := by rw [hWF]; exact grownBy_trans (grownBy_trans (grownBy_trans (grownBy_setCell _ _ _ _) (grownBy_setCell _ _ _ _)) (grownBy_setCell _ _ _ _)) (grownBy_setCell _ _ _ _)
    have KF : WF.heap[D]? = some (.deferred (some [])) := (g9.block D (ltE K9) (by simp; omega)).trans K9
    have oF : OwnSm WF w5.heap.size (.slice aS ms.length cS) ms := World.ownsRow.kept o9 g9 (.inr fun e => by have := (World.ownsRow.lt o9 _ e).1; omega)
    rw [← hWF]
    clear hWF g9 o9 D9 R9 K9 u0 u1 u2 x0 x1 x2 x3 y0 y1 y2 y3 q6 f6 HE
    have RG : SBlk (WF.putObj D (.deferred none)) w.heap.size ⟨#[]⟩ aS ms.length cS st en := (World.putObj_heap_other (by omega)).trans RF
    have c0 := RG.c0
    have c1 := RG.c1
    have c2 := RG.c2
    have c3 := RG.c3
    refine ⟨by simp, .inl ⟨_, _, rfl, run_takeDeferred KF, ?_⟩⟩
    refine ⟨.agg #[.string ⟨#[]⟩, .slice aS ms.length cS, .int .i64 st, .int .i64 en], by simp [results, Tryz.results75, go_sem, c0, c1, c2, c3], ?_⟩
    exact ⟨aS, cS, rfl, (OwnSm.at (ownsRow_putObj oF _ KF rfl)).2, (fun q hq => by subst hq; have := (World.ownsRow.lt oF q.block rfl).1; omega), DF.trans (putObj_below WF D _ (by omega) (ltE KF))⟩

end Go.Proofs.YtcngifkoopcmeaaGreatDoor
