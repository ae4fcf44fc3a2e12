/-
  An argument of type []Act, opened; a slice that came in lies in memory.
-/
import Derived.Test.YtfaijnghiamgoaaDoorOpen
import Derived.Test.YtfaijnghiamgoaaDoorReads
namespace Go.Proofs.YtfaijnghiamgoaaDoor
open Go.ChangeShapes Go.WideShapes Go.ChangeAt Go.RowKit Go.Deep

theorem slice_block {W : World} {base : Nat} {q : Addr} {n c : Nat} (h : Value.okWide Tryd.prog W .any base 22 (.slice (some q) n c)) : q.block < W.heap.size := by
  simp only [Value.okWide, Tryd.underlying22, Cell.okWide, Cell.ok] at h
  obtain ⟨_, _, _, _, row, cells, hs, _⟩ := h
  unfold World.shape? at hs
  cases hx : W.heap[q.block]? with
  | none => rw [hx] at hs; cases hs
  | some o => exact (Array.getElem?_eq_some_iff.1 hx).1

theorem cellsAct : Tryd.prog.cellsOf 31 = 2 := by kernel_rfl

theorem open_acts {H : Type} {enc : TypeId × Value → H} {W : World} {base : Nat} {sp : Nat → Bool} {held : Bool} {fuel : Nat} {a : Option Addr} {len cap : Nat} {x : DataW H × List MemPlace}
    (h : DataW.trod enc Tryd.prog W base sp held fuel 23 [.slice a len cap] = some x) :
    ∃ (K : Nat → Nat) (M : Nat → Int), len ≤ maxLen ∧ ActsAt W a len K M := by
  rcases open_slice_pairs Tryd.underlying23 Tryd.underlying31 cellsAct rfl rfl (by kernel_rfl) (by kernel_rfl) h with ⟨hcs, _⟩ | ⟨q, len', cap', m, n, V0, V1, D0, D1, P0, P1, hcs, _, hl, hm, hmm, _, hx⟩
  · simp only [List.cons.injEq, Value.slice.injEq, and_true] at hcs
    obtain ⟨rfl, rfl, rfl⟩ := hcs
    exact ⟨fun _ => 0, fun _ => 0, Nat.zero_le _, fun hn => absurd hn (Nat.lt_irrefl _)⟩
  · simp only [List.cons.injEq, Value.slice.injEq, and_true] at hcs
    obtain ⟨rfl, rfl, rfl⟩ := hcs
    have hlm : len ≤ m := by split at hmm <;> omega
    refine ⟨fun i => (intOf (V0 i)).toNat, fun i => intOf (V1 i), by omega, fun hn => ?_⟩
    obtain ⟨hc0, -, -, -⟩ := hx 0 (by omega)
    obtain ⟨b, o, s⟩ := q
    obtain rfl : s = none := by simpa [Addr.add] using World.cell?_spot hc0
    refine ⟨b, o, rfl, fun i hi => ?_⟩
    obtain ⟨h0, h1, t0, t1⟩ := hx i (by omega)
    obtain ⟨z0, e0, f0, g0⟩ := DataW.trod_int Tryd.underlying5 t0
    obtain ⟨z1, e1, f1, g1⟩ := DataW.trod_int Tryd.underlying3 t1
    simp only [List.cons.injEq, and_true] at e0 e1
    rw [Go.WideShapes.add_plain, e0] at h0
    rw [Go.WideShapes.add_plain, e1] at h1
    have hz : 0 ≤ z0 ∧ z0 < 256 := by
      have k1 : IntKind.u8.min = 0 := rfl
      have k2 : IntKind.u8.max = 255 := rfl
      simp only [Lit.wf, Bool.and_eq_true, decide_eq_true_eq] at g0
      omega
    refine ⟨?_, ?_, ?_⟩
    · show (intOf (V0 i)).toNat < 256
      rw [e0]
      show z0.toNat < 256
      omega
    · rw [h0]
      show some (Value.int .u8 z0) = some (.int .u8 (((intOf (V0 i)).toNat : Nat) : Int))
      rw [e0]
      show some (Value.int .u8 z0) = some (.int .u8 ((z0.toNat : Nat) : Int))
      rw [Int.toNat_of_nonneg hz.1]
    · rw [show o + i * 2 + 1 = o + (i * 2 + 1) by omega, h1]
      show some (Value.int .i64 z1) = some (.int .i64 (intOf (V1 i)))
      rw [e1]
      rfl

end Go.Proofs.YtfaijnghiamgoaaDoor
