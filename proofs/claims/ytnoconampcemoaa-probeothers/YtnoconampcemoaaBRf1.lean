/-
  The reference of layer 15: New, Get, Self, There, Position, SameNodes.
-/
import Derived.Test.YtnoconampcemoaaBW
import Derived.BigQuiet
namespace Go.Proofs.Ytnoconampcemoaa
open Go Go.RowKit

/-- A block of a table of the reference: who it is of, and its list. -/
def RtB (w : World) (B : Nat) (s : Int) (a : Option Addr) (n c : Nat) : Prop := w.heap[B]? = some (.cells #[.int .u16 s, .slice a n c] 35 (0, 0))
theorem RtB.lt {w : World} {B : Nat} {s : Int} {a : Option Addr} {n c : Nat} (h : RtB w B s a n c) : B < w.heap.size := ltE h
theorem RtB.below {w w' : World} {B N : Nat} {s : Int} {a : Option Addr} {n c : Nat} (h : RtB w B s a n c) (hb : Below N w w') (hN : B < N) : RtB w' B s a n c := (hb.block B hN).trans h
theorem RtB.on {w w' : World} {B : Nat} {s : Int} {a : Option Addr} {n c : Nat} (h : RtB w B s a n c) (hb : Below w.heap.size w w') : RtB w' B s a n c := h.below hb h.lt
theorem RtB.new (w : World) (s : Int) (a : Option Addr) (n c : Nat) : RtB (w.alloc (.cells #[.int .u16 s, .slice a n c] 35)) w.heap.size s a n c := newE w _
theorem RtB.c0 {w : World} {B : Nat} {s : Int} {a : Option Addr} {n c : Nat} (h : RtB w B s a n c) : w.cell? ⟨B, 0, none⟩ = some (.int .u16 s) := cellE h
theorem RtB.c1 {w : World} {B : Nat} {s : Int} {a : Option Addr} {n c : Nat} (h : RtB w B s a n c) : w.cell? ⟨B, 1, none⟩ = some (.slice a n c) := cellE h
theorem RtB.f {w : World} {B : Nat} {s : Int} {a : Option Addr} {n c : Nat} (h : RtB w B s a n c) (j : Nat) : w.frozen? ⟨B, j, none⟩ = false := by
  unfold RtB at h
  simp [World.frozen?, h]
theorem RtB.kept {w w' : World} {B : Nat} {s : Int} {a : Option Addr} {n c : Nat} {r : Option Nat} (h : RtB w B s a n c) (hg : w.grownBy w' r) (hr : some B ≠ r) : RtB w' B s a n c := (hg.block B h.lt hr).trans h
/-- A table stored. -/
def stR (w : World) (B : Nat) (s : Int) (a : Option Addr) (n c : Nat) : World := (w.setCell ⟨B, 0, none⟩ (.int .u16 s)).setCell ⟨B, 1, none⟩ (.slice a n c)
theorem RtB.store {w : World} {B : Nat} {s : Int} {a : Option Addr} {n c : Nat} (h : RtB w B s a n c) (s' : Int) (a' : Option Addr) (n' c' : Nat) : RtB (stR w B s' a' n' c') B s' a' n' c' := by
  unfold RtB at h ⊢
  unfold stR
  simp [World.setCell, Array.getElem?_modify, h]
theorem stR_grown (w : World) (B : Nat) (s : Int) (a : Option Addr) (n c : Nat) : w.grownBy (stR w B s a n c) (some B) := (grownBy_setCell w B _ _).trans (grownBy_setCell _ B _ _)
theorem stR_below {a0 w : World} {N B : Nat} (h : Below N a0 w) (hB : N ≤ B) (s : Int) (a : Option Addr) (n c : Nat) : Below N a0 (stR w B s a n c) :=
  (h.setCell (p := ⟨B, 0, none⟩) hB _).setCell (p := ⟨B, 1, none⟩) hB _
theorem RtB.load {w : World} {B : Nat} {s : Int} {a : Option Addr} {n c : Nat} (h : RtB w B s a n c) : (loadVar 35 ⟨B, 0, none⟩).run Try.prog w = .ok (.agg #[.int .u16 s, .slice a n c]) w :=
  run_loadVar_row w B 35 35 #[.int .u16 s, .slice a n c] (0, 0) _ h Try.underlying35 rfl (by kernel_rfl)
theorem results_rt1 {fn : Func} {p : Tmp} (h : fn.results = #[.cell p 35]) (tmps : Array Value) (w : World) (b : Nat) {s : Int} {a : Option Addr} {n c : Nat} (hp : tmps.getD p undef = .pointer (some ⟨b, 0, none⟩)) (ht : RtB w b s a n c) :
    (results fn tmps).run Try.prog w = .ok (.agg #[.int .u16 s, .slice a n c]) w := by
  have hp' : tmps[p]?.getD undef = .pointer (some ⟨b, 0, none⟩) := by simpa using hp
  simp [results, h, hp', asAddr, ht.load]
/-- What a list has of a node. -/
def getRl (L : List Mem) (k : Nat) : Mem × Bool := match getL (k : Int) L with | some m => (m, true) | none => (zM, false)
theorem getL_cons (k : Int) (x : Mem) (l : List Mem) : getL k (x :: l) = if x.n = k then some x else getL k l := by
  unfold getL
  by_cases h : x.n = k <;> simp [h]
theorem getL_take {k : Int} {l : List Mem} {i : Nat} (h : i < l.length) (h0 : getL k (l.take i) = none) : getL k (l.take (i + 1)) = if l[i].n = k then some l[i] else none := by
  unfold getL at *
  rw [List.take_succ_eq_append_getElem h, List.find?_append, h0]
  by_cases e : l[i].n = k <;> simp [e]
theorem getL_pre {k : Int} {l : List Mem} {i : Nat} {m : Mem} (h0 : getL k (l.take i) = some m) : getL k l = some m := by
  unfold getL at *
  rw [← List.take_append_drop i l, List.find?_append, h0]
  rfl
theorem MemsAt.one {w : World} {b : Nat} {m : Mem} (h : w.heap[b]? = some (.cells #[.int .u16 m.n, .int .u8 m.s, .int .i64 m.i] 43 (0, 0))) : MemsAt w (some ⟨b, 0, none⟩) [m] := fun _ => by
  refine ⟨b, 0, rfl, ltE h, fun i hi j v hv => ?_⟩
  obtain rfl : i = 0 := by simpa using hi
  rw [cellE h]
  simpa [encM] using hv

set_option maxRecDepth 20000 in
set_option maxHeartbeats 1000000 in
theorem brNew_any (n : Nat) (w : World) : Calls Try.prog 25 #[.int .u16 (n : Int)] w fun e w' => ∃ b, e = .returned (.agg #[.int .u16 ((n % 64 : Nat) : Int), .slice (some ⟨b, 0, none⟩) 1 1]) ∧ MemsAt w' (some ⟨b, 0, none⟩) [⟨((n % 64 : Nat) : Int), 0, 0⟩] ∧ w.heap.size ≤ b ∧ Below w.heap.size w w' := by
  obtain ⟨k, hk, hk2⟩ : ∃ k : Nat, (n : Int) % 64 = (k : Int) ∧ n % 64 = k := ⟨n % 64, by omega, rfl⟩
  rw [hk2]
  clear hk2
  go_enter Try.func25, Try.ntmps25
  have d1 := ((Below.refl w.heap.size w).alloc (Nat.le_refl _) (.cells #[.int .u16 (k : Int), .slice (some ⟨w.heap.size + 1, 0, none⟩) 1 1] 35)).alloc (by simp) (.cells #[.int .u16 (k : Int), .int .u8 0, .int .i64 0] 43)
  have r1 := (RtB.new w (k : Int) (some ⟨w.heap.size + 1, 0, none⟩) 1 1).on ((Below.refl _ _).alloc (Nat.le_refl _) (.cells #[.int .u16 (k : Int), .int .u8 0, .int .i64 0] 43))
  have m1 : MemsAt ((w.alloc (.cells #[.int .u16 (k : Int), .slice (some ⟨w.heap.size + 1, 0, none⟩) 1 1] 35)).alloc (.cells #[.int .u16 (k : Int), .int .u8 0, .int .i64 0] 43)) (some ⟨w.heap.size + 1, 0, none⟩) [⟨(k : Int), 0, 0⟩] := MemsAt.one (newE2 _ _ _)
  have HQ := Lib.hid (And.intro d1 (And.intro r1 m1))
  clear d1 r1 m1
  go_wp2
  exact bodyPost_ret (results_rt1 rfl _ _ _ rfl HQ.out.2.1) rfl ⟨w.heap.size + 1, rfl, HQ.out.2.2, Nat.le_succ _, HQ.out.1⟩

set_option maxRecDepth 20000 in
set_option maxHeartbeats 4000000 in
theorem brGet_any (s : Int) (a : Option Addr) (n c : Nat) (L : List Mem) (k : Nat) (w : World) (hM : MemsAt w a L) (hn : n = L.length) (hl : L.length ≤ 100000) (m : Mem) (r : Bool) (hr : getRl L k = (m, r)) :
    Calls Try.prog 42 #[.agg #[.int .u16 s, .slice a n c], .int .u16 (k : Int)] w fun e w' => e = .returned (.tuple #[.agg #[.int .u16 m.n, .int .u8 m.s, .int .i64 m.i], .bool r]) ∧ Below w.heap.size w w' := by
  have d1 := ((Below.refl w.heap.size w).alloc (Nat.le_refl _) (.cells #[.int .u16 s, .slice a n c] 35)).alloc (by simp) (.cells #[.int .u16 0, .int .u8 0, .int .i64 0] 43)
  have r1 := (RtB.new w s a n c).on ((Below.refl _ _).alloc (Nat.le_refl _) (.cells #[.int .u16 0, .int .u8 0, .int .i64 0] 43))
  have z1 := Mb.new2 w (.cells #[.int .u16 s, .slice a n c] 35) zM
  have hn1 : n ≤ 100000 := by omega
  have HN := Lib.hid hn
  have HM := Lib.hid (hM.on d1)
  have HR := Lib.hid hr
  clear hM hn hl hr
  have HQ := Lib.hid (And.intro d1 (And.intro r1 z1))
  clear d1 r1 z1
  go_enter Try.func42, Try.ntmps42
  go_wp2_with fail
  generalize (w.alloc (.cells #[.int .u16 s, .slice a n c] 35)).alloc (.cells #[.int .u16 0, .int .u8 0, .int .i64 0] 43) = W at *
  have c0 := HQ.out.2.1.c0; have c1 := HQ.out.2.1.c1
  have z0 := HQ.out.2.2.c0; have z1 := HQ.out.2.2.c1; have z2 := HQ.out.2.2.c2; have zf := HQ.out.2.2.f
  go_wp2
  go_loopw [6] (fun x wr => ∃ (i : Nat), i ≤ n ∧ x = .int .i64 (i : Int) ∧ wr = W ∧ Hid (getL (k : Int) (L.take i) = none)) (fun x _ => n - (intOf x).toNat)
  case atStart => exact ⟨0, Nat.zero_le _, rfl, rfl, Lib.hid rfl⟩
  case round =>
    obtain ⟨i, hi, rfl, rfl, HT⟩ := hrel
    by_cases hlt : i < n
    case neg =>
      have hkl : ¬ (i : Int) < (n : Int) := by omega
      have HF : Hid ((⟨0, 0, 0⟩ : Mem) = m ∧ false = r) := Lib.hid (by
        have e : L.take i = L := List.take_of_length_le (by have := HN.out; omega)
        have h1 := HT.out
        rw [e] at h1
        have h2 := HR.out
        unfold getRl at h2
        rw [h1] at h2
        exact ⟨(Prod.mk.inj h2).1, (Prod.mk.inj h2).2⟩)
      obtain ⟨rfl, rfl⟩ := HF.out
      have HS := Lib.hid (And.intro (HQ.out.2.2.store zM) (stM_below HQ.out.1 (Nat.le_succ _) zM))
      go_wp2
      exact bodyPost_ret (results_mb2 rfl _ _ _ rfl HS.out.1) rfl ⟨by first | rfl | trivial, HS.out.2⟩
    have hkl : (i : Int) < (n : Int) := by omega
    have hkx : i < L.length := by have := HN.out; omega
    obtain ⟨ba, oa, rfl, hba, d0, d1, d2⟩ := HM.out.cells i hkx
    have HT1 := Lib.hid (getL_take hkx HT.out)
    have HT2 : Hid (∀ y, getL (k : Int) (L.take (i + 1)) = some y → getRl L k = (y, true)) := Lib.hid (fun y hy => by unfold getRl; rw [getL_pre hy])
    generalize L[i] = x at *
    obtain ⟨xn, xs, xi⟩ := x
    dsimp only at d0 d1 d2 HT1
    clear hkx
    by_cases hx : xn = (k : Int)
    · subst hx
      rw [if_pos rfl] at HT1
      obtain ⟨rfl, rfl⟩ := Prod.mk.inj ((HT2.out _ HT1.out).symm.trans HR.out)
      have HS := Lib.hid (And.intro (HQ.out.2.2.store ⟨(k : Int), xs, xi⟩) (stM_below HQ.out.1 (Nat.le_succ _) ⟨(k : Int), xs, xi⟩))
      clear HT1 HT2 HT
      go_wp2
      exact bodyPost_ret (results_mb2 rfl _ _ _ rfl HS.out.1) rfl ⟨by first | rfl | trivial, HS.out.2⟩
    · rw [if_neg hx] at HT1
      have hx1 : (xn == (k : Int)) = false := by simpa using hx
      clear HT HT2
      go_wp2
      go_roundw
      case rel => exact ⟨i + 1, by omega, by go_num, by first | rfl | trivial, HT1⟩
      case measure => simp [intOf]; omega

end Go.Proofs.Ytnoconampcemoaa
