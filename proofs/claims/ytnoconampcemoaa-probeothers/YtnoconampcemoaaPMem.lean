/-
  Members: lists of them that lie somewhere, and lists of the call's own; whether two lists are one.
-/
import Derived.Test.YtnoconampcemoaaReg
import Derived.Laws.OwnMore
import Derived.Laws.AppendOwnNone
import Derived.Maps.AppendAt
import Derived.Laws.Tables
import Derived.Shelf.SlicesQ.Equal
namespace Go.Proofs.Ytnoconampcemoaa
open Go Go.RowKit Go.Shelf

/-- A member. -/
structure Mem where
  n : Int
  s : Int
  i : Int
def encM (m : Mem) : List Value := [.int .u16 m.n, .int .u8 m.s, .int .i64 m.i]
def MemsAt (w : World) (a : Option Addr) (l : List Mem) : Prop := 0 < l.length → ∃ b o, a = some ⟨b, o, none⟩ ∧ b < w.heap.size ∧ ∀ i (hi : i < l.length), ∀ j v, (encM l[i])[j]? = some v → w.cell? ⟨b, o + i * 3 + j, none⟩ = some v
theorem MemsAt.below {w w' : World} {a : Option Addr} {l : List Mem} {B : Nat} (h : MemsAt w a l) (hb : Below B w w') (hB : w.heap.size ≤ B) : MemsAt w' a l := fun hn => by
  obtain ⟨b, o, rfl, hlt, hc⟩ := h hn
  exact ⟨b, o, rfl, Nat.lt_of_lt_of_le hlt (hb.size), fun i hi j v hv => (hb.cell (p := ⟨b, _, none⟩) (Nat.lt_of_lt_of_le hlt hB)).trans (hc i hi j v hv)⟩
theorem MemsAt.on {w w' : World} {a : Option Addr} {l : List Mem} (h : MemsAt w a l) (hb : Below w.heap.size w w') : MemsAt w' a l := h.below hb (Nat.le_refl _)
theorem MemsAt.cells {w : World} {a : Option Addr} {l : List Mem} (h : MemsAt w a l) (k : Nat) (hk : k < l.length) : ∃ b o, a = some ⟨b, o, none⟩ ∧ b < w.heap.size ∧
    w.cell? ⟨b, o + k * 3, none⟩ = some (.int .u16 l[k].n) ∧ w.cell? ⟨b, o + k * 3 + 1, none⟩ = some (.int .u8 l[k].s) ∧ w.cell? ⟨b, o + k * 3 + 2, none⟩ = some (.int .i64 l[k].i) := by
  obtain ⟨b, o, rfl, hlt, hc⟩ := h (by omega)
  exact ⟨b, o, rfl, hlt, hc k hk 0 _ rfl, hc k hk 1 _ rfl, hc k hk 2 _ rfl⟩
def cellsMx (L : List Mem) : List Value := L.flatMap encM
theorem cellsMx_append (L M : List Mem) : cellsMx (L ++ M) = cellsMx L ++ cellsMx M := List.flatMap_append
theorem cellsMx_get : ∀ (L : List Mem) (i : Nat) (hi : i < L.length) (j : Nat) (v : Value), (encM L[i])[j]? = some v → (cellsMx L)[i * 3 + j]? = some v
  | p :: r, 0, _, j, v, hv => by
    have e : cellsMx (p :: r) = encM p ++ cellsMx r := rfl
    have hv' : (encM p)[j]? = some v := hv
    have hj := (List.getElem?_eq_some_iff.1 hv').1
    rw [e, Nat.zero_mul, Nat.zero_add, List.getElem?_append_left hj]
    exact hv'
  | p :: r, i + 1, hi, j, v, hv => by
    have := cellsMx_get r i (by simpa using hi) j v hv
    have e : cellsMx (p :: r) = encM p ++ cellsMx r := rfl
    have l : (encM p).length = 3 := rfl
    rw [e, List.getElem?_append_right (by omega), l, show (i + 1) * 3 + j - 3 = i * 3 + j by omega]
    exact this
/-- A slice of the call's own. -/
def OwnMx (w : World) (B : Nat) (v : Value) (L : List Mem) : Prop := w.ownsRow B 43 3 v L.length (cellsMx L)
theorem infoMx : (Try.prog.info? 43).map (fun i => (i.zero, i.size, i.bytes)) = some (some (.agg #[.int .u16 0, .int .u8 0, .int .i64 0]), 3, 16) := by kernel_rfl
theorem OwnMx.push {w : World} {B : Nat} {v : Value} {L : List Mem} {r : Mem} (h : w.ownsRow B 43 3 v (L.length + 1) (cellsMx L ++ encM r)) : OwnMx w B v (L ++ [r]) := by
  unfold OwnMx
  rw [cellsMx_append, List.length_append]
  simpa [cellsMx] using h
theorem OwnMx.nil (w : World) (B : Nat) : OwnMx w B (.slice none 0 0) [] := World.ownsRow_nil _ _ _ _
theorem OwnMx.turn {w w' : World} {B rb : Nat} {v : Value} {L : List Mem} (h : OwnMx w B v L) (g : w.grownBy w' (some rb)) (hr : rb < B) : OwnMx w' B v L :=
  World.ownsRow.kept h g (.inr fun e => by have := (World.ownsRow.lt h rb e).1; omega)
theorem OwnMx.form {w : World} {B : Nat} {v : Value} {L : List Mem} (h : OwnMx w B v L) : ∃ a c, v = .slice a L.length c ∧ (a = none → c = 0) ∧ (∀ q, a = some q → B ≤ q.block ∧ q.block < w.heap.size) ∧ MemsAt w a L := by
  rcases h.2 with ⟨rfl, h0⟩ | ⟨g, cap, cur, rfl, hg0, hg1, hcap, hmax, hcs, htk⟩
  · exact ⟨none, 0, by rw [h0], fun _ => rfl, (fun q e => by cases e), fun hn => by omega⟩
  · refine ⟨_, _, rfl, (fun e => by cases e), (fun q e => by obtain rfl := Option.some.inj e; exact ⟨hg0, ltE hg1⟩), fun hn => ⟨g, 0, rfl, ltE hg1, fun i hi j v hv => ?_⟩⟩
    have hj := (List.getElem?_eq_some_iff.1 hv).1
    have l5 : (encM L[i]).length = 3 := rfl
    rw [Nat.zero_add, World.ownsRow.cellAt h _ (by omega)]
    exact cellsMx_get L i hi j v hv
def eqMm (x y : Mem) : Bool := x.n == y.n && (x.s == y.s && x.i == y.i)
theorem eqMm_iff (x y : Mem) : eqMm x y = true ↔ x = y := by
  obtain ⟨a, b, c⟩ := x
  obtain ⟨d, e, f⟩ := y
  simp [eqMm]
set_option maxRecDepth 20000 in
theorem run_neM (x y : Mem) (w : World) : (binOp .neq 43 (.agg #[.int .u16 x.n, .int .u8 x.s, .int .i64 x.i]) (.agg #[.int .u16 y.n, .int .u8 y.s, .int .i64 y.i])).run Try.prog w = .ok (.bool (!eqMm x y)) w := by
  unfold eqMm
  cases h1 : x.n == y.n <;> cases h2 : x.s == y.s <;> go_simp <;> (by_cases hu : x.i = y.i <;> simp [hu])

theorem allEqM_iff : ∀ (xs ys : List Mem), Lib.allEq eqMm xs ys = true ↔ xs = ys
  | [], [] => by simp [Lib.allEq]
  | [], _ :: _ => by simp [Lib.allEq]
  | _ :: _, [] => by simp [Lib.allEq]
  | x :: xs, y :: ys => by
    rw [Lib.allEq, Bool.and_eq_true, allEqM_iff xs ys, eqMm_iff, List.cons.injEq]
/-- Whether two lists are one. -/
def sameMs (xs ys : List Mem) : Bool := Lib.allEq eqMm xs ys
theorem sameMs_iff (xs ys : List Mem) : sameMs xs ys = true ↔ xs = ys := allEqM_iff xs ys
theorem sameMs_len {xs ys : List Mem} (h : xs.length ≠ ys.length) : sameMs xs ys = false := by
  rw [Bool.eq_false_iff]
  exact fun e => h (by rw [(allEqM_iff xs ys).1 e])
theorem cellsMx_len : ∀ (L : List Mem), (cellsMx L).length = L.length * 3
  | [] => rfl
  | p :: r => by
    have e : cellsMx (p :: r) = encM p ++ cellsMx r := rfl
    have l : (encM p).length = 3 := rfl
    rw [e, List.length_append, cellsMx_len r, l, List.length_cons]
    omega
theorem OwnMx.on {w w' : World} {B : Nat} {v : Value} {L : List Mem} (h : OwnMx w B v L) (hb : Below w.heap.size w w') : OwnMx w' B v L := World.ownsRow.kept h (grownBy_of_below (r := none) hb) (by cases hv : v.ownBlock <;> simp)
theorem OwnMx.base {w : World} {B B' : Nat} {v : Value} {L : List Mem} (h : OwnMx w B v L) (hb : B' ≤ B) : OwnMx w B' v L := by
  refine ⟨h.1, ?_⟩
  rcases h.2 with hn | ⟨g, cap, cur, hv, hbg, rest⟩
  · exact .inl hn
  · exact .inr ⟨g, cap, cur, hv, Nat.le_trans hb hbg, rest⟩
theorem OwnMx.cap {w : World} {B : Nat} {a : Option Addr} {n c : Nat} {L : List Mem} (h : OwnMx w B (.slice a n c) L) : L.length ≤ c := by
  rcases h.2 with ⟨e, h0⟩ | ⟨g, cap, cur, e, -, -, hcap, -⟩
  · omega
  · simp only [Value.slice.injEq] at e; omega
theorem OwnMx.mems {w : World} {B : Nat} {a : Option Addr} {n c : Nat} {L : List Mem} (h : OwnMx w B (.slice a n c) L) : MemsAt w a L := by
  obtain ⟨x, y, e, -, -, hat⟩ := h.form
  simp only [Value.slice.injEq] at e
  rw [e.1]
  exact hat
def RowM6 (w : World) (b p : Nat) (x : Mem) : Prop := w.cell? ⟨b, p, none⟩ = some (.int .u16 x.n) ∧ w.cell? ⟨b, p + 1, none⟩ = some (.int .u8 x.s) ∧ w.cell? ⟨b, p + 2, none⟩ = some (.int .i64 x.i)
theorem MemsAt.row6 {w : World} {a : Option Addr} {l : List Mem} (h : MemsAt w a l) (k : Nat) (hk : k < l.length) : ∃ b o, a = some ⟨b, o, none⟩ ∧ RowM6 w b (o + k * 3) l[k] := by
  obtain ⟨b, o, e, -, c⟩ := h.cells k hk
  exact ⟨b, o, e, c⟩
theorem eqMm_refl6 (x : Mem) : eqMm x x = true := (eqMm_iff _ _).2 rfl

set_option maxRecDepth 100000 in
set_option maxHeartbeats 4000000 in
theorem ySameM_any (a b : Option Addr) (c d : Nat) (xs ys : List Mem) (w : World) (ha : MemsAt w a xs) (hb : MemsAt w b ys) (hn : xs.length ≤ 9223372036854775807) (n m : Nat) (hnx : n = xs.length) (hmy : m = ys.length) :
    Calls Try.prog 31 #[.slice a n c, .slice b m d] w fun e w' => e = .returned (.bool (sameMs xs ys)) ∧ Below w.heap.size w w' := by
  by_cases hnm : n = m
  · subst hnm
    have hn1 : n ≤ 9223372036854775807 := by omega
    have HN := Lib.hid hnx
    have HM := Lib.hid hmy
    have HA := Lib.hid ha
    have HB := Lib.hid hb
    clear hnx hmy ha hb hn
    go_enter Try.func31, Try.ntmps31
    go_wp2
    go_loopw [5] (fun i wr => ∃ (k : Nat), k ≤ n ∧ i = .int .i64 k ∧ Hid (xs.take k = ys.take k) ∧ Hid (Below w.heap.size w wr)) (fun i _ => n - (intOf i).toNat)
    case atStart => exact ⟨0, Nat.zero_le _, rfl, Lib.hid rfl, Lib.hid (Below.refl _ _)⟩
    case round =>
      obtain ⟨k, hk, rfl, HT, HW⟩ := hrel
      by_cases hlt : k < n
      · have hkl : (k : Int) < (n : Int) := by omega
        have hkx : k < xs.length := by have := HN.out; omega
        have hky : k < ys.length := by have := HM.out; omega
        obtain ⟨bA, oA, rfl, rA⟩ := (HA.out.on HW.out).row6 k hkx
        obtain ⟨bB, oB, rfl, rB⟩ := (HB.out.on HW.out).row6 k hky
        have HT2 : Hid (xs[k] = ys[k] → xs.take (k + 1) = ys.take (k + 1)) := Lib.hid (fun e => by rw [List.take_succ_eq_append_getElem hkx, List.take_succ_eq_append_getElem hky, HT.out, e])
        have HF : Hid (xs[k] ≠ ys[k] → sameMs xs ys = false) := Lib.hid (fun hne => by rw [Bool.eq_false_iff]; intro e; have e' := (allEqM_iff xs ys).1 e; subst e'; exact hne rfl)
        generalize xs[k] = x at *
        generalize ys[k] = y at *
        clear hkx hky HT
        obtain ⟨nx, sx, ix⟩ := x
        obtain ⟨ny, sy, iy⟩ := y
        have hne := fun w => run_neM ⟨nx, sx, ix⟩ ⟨ny, sy, iy⟩ w
        dsimp only at hne
        cases hc : eqMm ⟨nx, sx, ix⟩ ⟨ny, sy, iy⟩ with
        | true =>
          rw [hc] at hne
          simp only [Bool.not_true] at hne
          have HT3 := Lib.hid (HT2.out ((eqMm_iff _ _).1 hc))
          clear hc HT2 HF
          go_wp2_with fail
          refine wp_region_any (by kernel_rfl) ?_
          change wpAny _ _ _ _ _ _ _ (World.drew _)
          have hS : (fun w' : World => RowM6 w' bA (oA + k * 3) ⟨nx, sx, ix⟩ ∧ RowM6 w' bB (oB + k * 3) ⟨ny, sy, iy⟩ ∧ Below w.heap.size w w') wr.drew := ⟨rA, rB, HW.out.drew⟩
          refine wpAny_of_held (S := fun w' => RowM6 w' bA (oA + k * 3) ⟨nx, sx, ix⟩ ∧ RowM6 w' bB (oB + k * 3) ⟨ny, sy, iy⟩ ∧ Below w.heap.size w w') _ _ _ _ ?_
          clear rA rB
          refine wpAnyH_takeE (i := 0) (some 17) (v := ?_) rfl rfl (by as_aux_lemma => kernel_rfl) (by as_aux_lemma => kernel_rfl) (by as_aux_lemma => kernel_rfl) (fun _ _ _ h => h) (Or.inl ⟨by kernel_rfl, ?_⟩) hS ?_
          rotate_left
          · intro w hSw; obtain ⟨a0, a1, a2⟩ := hSw.1; obtain ⟨d0, d1, d2⟩ := hSw.2.1; dsimp only at a0 a1 a2 d0 d1 d2; go_simp
            first | done | with_reducible rfl
          refine wpAnyH_takeE (i := 1) (some 18) (v := ?_) rfl rfl (by as_aux_lemma => kernel_rfl) (by as_aux_lemma => kernel_rfl) (by as_aux_lemma => kernel_rfl) (fun _ _ _ h => h) (Or.inl ⟨by kernel_rfl, ?_⟩) hS ?_
          rotate_left
          · intro w hSw; obtain ⟨a0, a1, a2⟩ := hSw.1; obtain ⟨d0, d1, d2⟩ := hSw.2.1; dsimp only at a0 a1 a2 d0 d1 d2; go_simp
            first | done | with_reducible rfl
          refine wpAnyH_takeE (i := 2) (some 19) (v := ?_) rfl rfl (by as_aux_lemma => kernel_rfl) (by as_aux_lemma => kernel_rfl) (by as_aux_lemma => kernel_rfl) (fun _ _ _ h => h) (Or.inl ⟨by kernel_rfl, ?_⟩) hS ?_
          rotate_left
          · intro w hSw; obtain ⟨a0, a1, a2⟩ := hSw.1; obtain ⟨d0, d1, d2⟩ := hSw.2.1; dsimp only at a0 a1 a2 d0 d1 d2; go_simp
            first | done | with_reducible rfl
          refine wpAnyH_takeE (i := 3) (some 20) (v := ?_) rfl rfl (by as_aux_lemma => kernel_rfl) (by as_aux_lemma => kernel_rfl) (by as_aux_lemma => kernel_rfl) (fun _ _ _ h => h) (Or.inl ⟨by kernel_rfl, ?_⟩) hS ?_
          rotate_left
          · intro w hSw; obtain ⟨a0, a1, a2⟩ := hSw.1; obtain ⟨d0, d1, d2⟩ := hSw.2.1; dsimp only at a0 a1 a2 d0 d1 d2; go_simp
            first | done | with_reducible rfl
          refine wpAnyH_takeE (i := 4) (some 21) (v := ?_) rfl rfl (by as_aux_lemma => kernel_rfl) (by as_aux_lemma => kernel_rfl) (by as_aux_lemma => kernel_rfl) (fun _ _ _ h => h) (Or.inl ⟨by kernel_rfl, ?_⟩) hS ?_
          rotate_left
          · intro w hSw; obtain ⟨a0, a1, a2⟩ := hSw.1; obtain ⟨d0, d1, d2⟩ := hSw.2.1; dsimp only at a0 a1 a2 d0 d1 d2; go_simp
            first | done | with_reducible rfl
          refine wpAnyH_takeE (i := 5) (some 22) (v := ?_) rfl rfl (by as_aux_lemma => kernel_rfl) (by as_aux_lemma => kernel_rfl) (by as_aux_lemma => kernel_rfl) (fun _ _ _ h => h) (Or.inl ⟨by kernel_rfl, ?_⟩) hS ?_
          rotate_left
          · intro w hSw; obtain ⟨a0, a1, a2⟩ := hSw.1; obtain ⟨d0, d1, d2⟩ := hSw.2.1; dsimp only at a0 a1 a2 d0 d1 d2; go_simp
            first | done | with_reducible rfl
          refine wpAnyH_takeE (i := 6) (some 23) (v := ?_) rfl rfl (by as_aux_lemma => kernel_rfl) (by as_aux_lemma => kernel_rfl) (by as_aux_lemma => kernel_rfl) (fun _ _ _ h => h) (Or.inl ⟨by kernel_rfl, ?_⟩) hS ?_
          rotate_left
          · intro w hSw; obtain ⟨a0, a1, a2⟩ := hSw.1; obtain ⟨d0, d1, d2⟩ := hSw.2.1; dsimp only at a0 a1 a2 d0 d1 d2; go_simp
            first | done | with_reducible rfl
          refine wpAnyH_takeE (i := 7) (some 24) (v := ?_) rfl rfl (by as_aux_lemma => kernel_rfl) (by as_aux_lemma => kernel_rfl) (by as_aux_lemma => kernel_rfl) (fun _ _ _ h => h) (Or.inl ⟨by kernel_rfl, ?_⟩) hS ?_
          rotate_left
          · intro w hSw; obtain ⟨a0, a1, a2⟩ := hSw.1; obtain ⟨d0, d1, d2⟩ := hSw.2.1; dsimp only at a0 a1 a2 d0 d1 d2; go_simp
            first | done | with_reducible rfl
          refine wpAnyH_takeE (i := 8) (some 25) (v := ?_) rfl rfl (by as_aux_lemma => kernel_rfl) (by as_aux_lemma => kernel_rfl) (by as_aux_lemma => kernel_rfl) (fun _ _ _ h => h) (Or.inl ⟨by kernel_rfl, ?_⟩) hS ?_
          rotate_left
          · intro w hSw; obtain ⟨a0, a1, a2⟩ := hSw.1; obtain ⟨d0, d1, d2⟩ := hSw.2.1; dsimp only at a0 a1 a2 d0 d1 d2; go_simp
            first | done | with_reducible rfl
          have HB3 := Lib.hid hS.2.2
          refine wpAnyH_done (by kernel_rfl) ?_ _
          clear hS HW
          go_simp
          go_wp2
          go_roundw
          case rel => exact ⟨k + 1, by omega, by go_num, HT3, HB3⟩
          case measure => simp [intOf]; omega
        | false =>
          rw [hc] at hne
          simp only [Bool.not_false] at hne
          have hs : sameMs xs ys = false := HF.out (fun e => by rw [e, eqMm_refl6] at hc; cases hc)
          have HSm := Lib.hid hs
          clear hc HT2 HF hs
          go_wp2_with fail
          refine wp_region_any (by kernel_rfl) ?_
          change wpAny _ _ _ _ _ _ _ (World.drew _)
          have hS : (fun w' : World => RowM6 w' bA (oA + k * 3) ⟨nx, sx, ix⟩ ∧ RowM6 w' bB (oB + k * 3) ⟨ny, sy, iy⟩ ∧ Below w.heap.size w w') wr.drew := ⟨rA, rB, HW.out.drew⟩
          refine wpAny_of_held (S := fun w' => RowM6 w' bA (oA + k * 3) ⟨nx, sx, ix⟩ ∧ RowM6 w' bB (oB + k * 3) ⟨ny, sy, iy⟩ ∧ Below w.heap.size w w') _ _ _ _ ?_
          clear rA rB
          refine wpAnyH_takeE (i := 0) (some 17) (v := ?_) rfl rfl (by as_aux_lemma => kernel_rfl) (by as_aux_lemma => kernel_rfl) (by as_aux_lemma => kernel_rfl) (fun _ _ _ h => h) (Or.inl ⟨by kernel_rfl, ?_⟩) hS ?_
          rotate_left
          · intro w hSw; obtain ⟨a0, a1, a2⟩ := hSw.1; obtain ⟨d0, d1, d2⟩ := hSw.2.1; dsimp only at a0 a1 a2 d0 d1 d2; go_simp
            first | done | with_reducible rfl
          refine wpAnyH_takeE (i := 1) (some 18) (v := ?_) rfl rfl (by as_aux_lemma => kernel_rfl) (by as_aux_lemma => kernel_rfl) (by as_aux_lemma => kernel_rfl) (fun _ _ _ h => h) (Or.inl ⟨by kernel_rfl, ?_⟩) hS ?_
          rotate_left
          · intro w hSw; obtain ⟨a0, a1, a2⟩ := hSw.1; obtain ⟨d0, d1, d2⟩ := hSw.2.1; dsimp only at a0 a1 a2 d0 d1 d2; go_simp
            first | done | with_reducible rfl
          refine wpAnyH_takeE (i := 2) (some 19) (v := ?_) rfl rfl (by as_aux_lemma => kernel_rfl) (by as_aux_lemma => kernel_rfl) (by as_aux_lemma => kernel_rfl) (fun _ _ _ h => h) (Or.inl ⟨by kernel_rfl, ?_⟩) hS ?_
          rotate_left
          · intro w hSw; obtain ⟨a0, a1, a2⟩ := hSw.1; obtain ⟨d0, d1, d2⟩ := hSw.2.1; dsimp only at a0 a1 a2 d0 d1 d2; go_simp
            first | done | with_reducible rfl
          refine wpAnyH_takeE (i := 3) (some 20) (v := ?_) rfl rfl (by as_aux_lemma => kernel_rfl) (by as_aux_lemma => kernel_rfl) (by as_aux_lemma => kernel_rfl) (fun _ _ _ h => h) (Or.inl ⟨by kernel_rfl, ?_⟩) hS ?_
          rotate_left
          · intro w hSw; obtain ⟨a0, a1, a2⟩ := hSw.1; obtain ⟨d0, d1, d2⟩ := hSw.2.1; dsimp only at a0 a1 a2 d0 d1 d2; go_simp
            first | done | with_reducible rfl
          refine wpAnyH_takeE (i := 4) (some 21) (v := ?_) rfl rfl (by as_aux_lemma => kernel_rfl) (by as_aux_lemma => kernel_rfl) (by as_aux_lemma => kernel_rfl) (fun _ _ _ h => h) (Or.inl ⟨by kernel_rfl, ?_⟩) hS ?_
          rotate_left
          · intro w hSw; obtain ⟨a0, a1, a2⟩ := hSw.1; obtain ⟨d0, d1, d2⟩ := hSw.2.1; dsimp only at a0 a1 a2 d0 d1 d2; go_simp
            first | done | with_reducible rfl
          refine wpAnyH_takeE (i := 5) (some 22) (v := ?_) rfl rfl (by as_aux_lemma => kernel_rfl) (by as_aux_lemma => kernel_rfl) (by as_aux_lemma => kernel_rfl) (fun _ _ _ h => h) (Or.inl ⟨by kernel_rfl, ?_⟩) hS ?_
          rotate_left
          · intro w hSw; obtain ⟨a0, a1, a2⟩ := hSw.1; obtain ⟨d0, d1, d2⟩ := hSw.2.1; dsimp only at a0 a1 a2 d0 d1 d2; go_simp
            first | done | with_reducible rfl
          refine wpAnyH_takeE (i := 6) (some 23) (v := ?_) rfl rfl (by as_aux_lemma => kernel_rfl) (by as_aux_lemma => kernel_rfl) (by as_aux_lemma => kernel_rfl) (fun _ _ _ h => h) (Or.inl ⟨by kernel_rfl, ?_⟩) hS ?_
          rotate_left
          · intro w hSw; obtain ⟨a0, a1, a2⟩ := hSw.1; obtain ⟨d0, d1, d2⟩ := hSw.2.1; dsimp only at a0 a1 a2 d0 d1 d2; go_simp
            first | done | with_reducible rfl
          refine wpAnyH_takeE (i := 7) (some 24) (v := ?_) rfl rfl (by as_aux_lemma => kernel_rfl) (by as_aux_lemma => kernel_rfl) (by as_aux_lemma => kernel_rfl) (fun _ _ _ h => h) (Or.inl ⟨by kernel_rfl, ?_⟩) hS ?_
          rotate_left
          · intro w hSw; obtain ⟨a0, a1, a2⟩ := hSw.1; obtain ⟨d0, d1, d2⟩ := hSw.2.1; dsimp only at a0 a1 a2 d0 d1 d2; go_simp
            first | done | with_reducible rfl
          refine wpAnyH_takeE (i := 8) (some 25) (v := ?_) rfl rfl (by as_aux_lemma => kernel_rfl) (by as_aux_lemma => kernel_rfl) (by as_aux_lemma => kernel_rfl) (fun _ _ _ h => h) (Or.inl ⟨by kernel_rfl, ?_⟩) hS ?_
          rotate_left
          · intro w hSw; obtain ⟨a0, a1, a2⟩ := hSw.1; obtain ⟨d0, d1, d2⟩ := hSw.2.1; dsimp only at a0 a1 a2 d0 d1 d2; go_simp
            first | done | with_reducible rfl
          have HB3 := Lib.hid hS.2.2
          refine wpAnyH_done (by kernel_rfl) ?_ _
          clear hS HW
          go_simp
          go_wp2
          go_ret
          exact ⟨by rw [HSm.out]; rfl, HB3.out⟩
      · have hkl : ¬ (k : Int) < (n : Int) := by omega
        have hs : sameMs xs ys = true := (allEqM_iff xs ys).2 (by
          have h := HT.out
          rw [List.take_of_length_le (by have := HN.out; omega), List.take_of_length_le (by have := HM.out; omega)] at h
          exact h)
        have HSm := Lib.hid hs
        clear hs HT
        go_wp2
        go_ret
        exact ⟨by rw [HSm.out]; rfl, HW.out⟩
  · have h1 : ((n : Int) != (m : Int)) = true := by simp only [bne_iff_ne, ne_eq]; omega
    have hs := sameMs_len (xs := xs) (ys := ys) (by omega)
    rw [hs]
    clear hnx hmy hs hn hnm ha hb
    go_enter Try.func31, Try.ntmps31
    go_wp2
    go_ret
    exact ⟨rfl, Below.refl _ _⟩
end Go.Proofs.Ytnoconampcemoaa
