/-
  The reference of layer 15: Hear.
-/
import Derived.Test.YtnoconampcemoaaBRf3
import Derived.Deep.RegionWith
namespace Go.Proofs.Ytnoconampcemoaa
open Go Go.RowKit

/-- What every order of a region ends in. -/
def Ends3 (A : Option Addr → Nat → Nat → Act) (F : Option Addr → Nat → Nat → World → Prop) : Exit → Act → World → Prop
  | .normal, a, w => ∃ x n c, a = A x n c ∧ F x n c w
  | _, _, _ => False
theorem code_join3 {P : Program} {c : Code} {Q : Exit → Act → World → Prop} {a : Act} {w : World} (F : Option Addr → Nat → Nat → World → Prop) (A : Option Addr → Nat → Nat → Act) (hR : c.wp P (Ends3 A F) a w) (hT : ∀ x n c w, F x n c w → Q .normal (A x n c) w) : c.wp P Q a w :=
  Code.wp_mono (fun e a w h => by
    cases e with
    | normal =>
      obtain ⟨x, n, c, rfl, hF⟩ := h
      exact hT x n c w hF
    | _ => exact h.elim) hR
theorem results_rt3 {fn : Func} {p p2 u : Tmp} (h : fn.results = #[.cell p 35, .cell p2 43, .tmp u]) (tmps : Array Value) (w : World) (b b2 : Nat) {s : Int} {a : Option Addr} {n c : Nat} {m : Mem} (hp : tmps.getD p undef = .pointer (some ⟨b, 0, none⟩)) (hp2 : tmps.getD p2 undef = .pointer (some ⟨b2, 0, none⟩)) (ht : RtB w b s a n c) (hm : Mb w b2 m) :
    (results fn tmps).run Try.prog w = .ok (.tuple #[.agg #[.int .u16 s, .slice a n c], .agg #[.int .u16 m.n, .int .u8 m.s, .int .i64 m.i], tmps.getD u undef]) w := by
  have hp' : tmps[p]?.getD undef = .pointer (some ⟨b, 0, none⟩) := by simpa using hp
  have hp2' : tmps[p2]?.getD undef = .pointer (some ⟨b2, 0, none⟩) := by simpa using hp2
  simp [results, h, hp', hp2', asAddr, ht.load, hm.load]
theorem getRl_mems {T : Tb} (h : TbOk T) (k : Nat) : getRl (memsB T) k = (atT T k, (T.f k).isSome) := by
  unfold getRl atT
  rw [getL_mems h]
  cases T.f k <;> rfl
theorem RtB.stM {w : World} {B b : Nat} {s : Int} {a : Option Addr} {n c : Nat} (h : RtB w B s a n c) (hne : B ≠ b) (m : Mem) : RtB (_root_.Go.Proofs.Ytnoconampcemoaa.stM w b m) B s a n c := h.kept (stM_grown w b m) (by simpa using hne)
theorem Mb.stR {w : World} {B b : Nat} {m : Mem} (h : Mb w B m) (hne : B ≠ b) (s : Int) (a : Option Addr) (n c : Nat) : Mb (_root_.Go.Proofs.Ytnoconampcemoaa.stR w b s a n c) B m := h.kept (stR_grown w b s a n c) (by simpa using hne)
theorem hearR_no {T : Tb} {m : Mem} (h : newsB T m = false) : hearB T m = T := by
  unfold hearB
  rw [h]
  rfl
theorem hearR_yes {T : Tb} {m : Mem} (h : newsB T m = true) : hearB T m = T.put (saidM T m) := by
  unfold hearB
  rw [if_pos h]
/-- What Hear of the reference tells, where its list is a table's. -/
def HearRPost (a : Option Addr) (T : Tb) (m : Mem) (w : World) (e : Ending) (w' : World) : Prop :=
  ∃ a' n' c', e = .returned (.tuple #[.agg #[.int .u16 (T.s : Int), .slice a' n' c'], .agg #[.int .u16 (heardM T m).n, .int .u8 (heardM T m).s, .int .i64 (heardM T m).i], .bool (newsB T m)]) ∧ n' = (memsB (hearB T m)).length ∧
    MemsAt w' a' (memsB (hearB T m)) ∧ (∀ q, a' = some q → a = some q ∨ w.heap.size ≤ q.block) ∧ Below w.heap.size w w'

end Go.Proofs.Ytnoconampcemoaa
