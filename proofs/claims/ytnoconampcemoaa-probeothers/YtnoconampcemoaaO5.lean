/-
  What goes on beside a probe and a table; ask, askForHelp, giveUp of package probe.
-/
import Derived.Test.YtnoconampcemoaaO4
namespace Go.Proofs.Ytnoconampcemoaa
open Go Go.RowKit

/-- All that lay there lies as it did, but for two blocks. -/
structure Grown2 (w w' : World) (b c : Nat) : Prop where
  os : w'.os = w.os
  tape : w'.tape = w.tape
  output : w'.output = w.output
  size : w.heap.size ≤ w'.heap.size
  block : ∀ k, k < w.heap.size → k ≠ b → k ≠ c → w'.heap[k]? = w.heap[k]?
theorem Grown2.refl (w : World) (b c : Nat) : Grown2 w w b c := ⟨rfl, rfl, rfl, Nat.le_refl _, fun _ _ _ _ => rfl⟩
theorem Grown2.one {w w' : World} {b c : Nat} (h : w.grownBy w' (some b)) : Grown2 w w' b c := ⟨h.os, h.tape, h.output, h.size, fun k hk hb _ => h.block k hk (by simp; exact hb)⟩
theorem Grown2.two {w w' : World} {b c : Nat} (h : w.grownBy w' (some c)) : Grown2 w w' b c := ⟨h.os, h.tape, h.output, h.size, fun k hk _ hc => h.block k hk (by simp; exact hc)⟩
theorem Grown2.of {w w' : World} {b c : Nat} (h : Below w.heap.size w w') : Grown2 w w' b c := ⟨h.os, h.tape, h.output, h.size, fun k hk _ _ => h.block k hk⟩
theorem Grown2.trans {x y z : World} {b c : Nat} (h : Grown2 x y b c) (k : Grown2 y z b c) : Grown2 x z b c :=
  ⟨k.os.trans h.os, k.tape.trans h.tape, k.output.trans h.output, Nat.le_trans h.size k.size, fun i hi hb hc => (k.block i (Nat.lt_of_lt_of_le hi h.size) hb hc).trans (h.block i hi hb hc)⟩
theorem Below.grown2 {N b c : Nat} {a w w' : World} (h : Below N a w) (g : Grown2 w w' b c) (hN : N ≤ w.heap.size) (hb : N ≤ b) (hc : N ≤ c) : Below N a w' :=
  h.trans ⟨g.os, g.tape, g.output, g.size, fun k hk => g.block k (by omega) (by omega) (by omega)⟩
theorem OwnMx.moved {w w' : World} {B : Nat} {v : Value} {L : List Mem} (h : OwnMx w B v L) (hk : ∀ g, B ≤ g → g < w.heap.size → w'.heap[g]? = w.heap[g]?) : OwnMx w' B v L := by
  obtain ⟨h1, h2⟩ := h
  refine ⟨h1, ?_⟩
  rcases h2 with h2 | ⟨g, cap, cur, e, hg, hh, r⟩
  · exact .inl h2
  · exact .inr ⟨g, cap, cur, e, hg, (hk g hg (ltE hh)).trans hh, r⟩
theorem OwnMx.past2 {w w' : World} {B b c : Nat} {v : Value} {L : List Mem} (h : OwnMx w B v L) (g : Grown2 w w' b c) (hb : b < B) (hc : c < B) : OwnMx w' B v L :=
  h.moved fun k hk hl => g.block k hl (by omega) (by omega)
theorem OutsAt.past2 {w w' : World} {B b c : Nat} {a : Option Addr} {n k : Nat} {L : List Ou} (h : OutsAt w B a n k L) (g : Grown2 w w' b c) (hb : b < B) (hc : c < B) : OutsAt w' B a n k L := by
  rcases h with h | ⟨o, q, h1, h2, h3, h4, h5, h6⟩
  · exact .inl h
  · exact .inr ⟨o, q, h1, h2, h3, h4, h5, (g.block q (ltE h6) (by omega) (by omega)).trans h6⟩
theorem OutsAt.base {w : World} {B B' : Nat} {a : Option Addr} {n k : Nat} {L : List Ou} (h : OutsAt w B a n k L) (hb : B' ≤ B) : OutsAt w B' a n k L := by
  rcases h with h | ⟨o, q, h1, h2, h3, h4, h5, h6⟩
  · exact .inl h
  · exact .inr ⟨o, q, h1, h2, h3, h4, by omega, h6⟩
/-- What a call that asks tells. -/
def AskPost (b : Nat) (K : Tk) (w : World) (e : Ending) (w' : World) : Prop := ∃ a n c, e = .returned (.slice a n c) ∧ OutsAt w' w.heap.size a n c K.o ∧ PbBlk w' b K.P ∧ w.grownBy w' (some b)
set_option maxRecDepth 20000 in
set_option maxHeartbeats 4000000 in
theorem pbask_any (b d : Nat) (P : Pb) (T : Tb) (now : Int) (q : Nat) (hq : q < 4294967296) (w : World) (hP : PbBlk w b P) (hT : TabBlk w d T) (hok : PbOk P) (htk : TbOk T) (hnow : timeOk now = true) :
    Calls Try.prog 37 #[.pointer (some ⟨b, 0, none⟩), .int .i64 now, .int .u32 (q : Int), .pointer (some ⟨d, 0, none⟩)] w (AskPost b (askP P T now q) w) := by
  have HO := Lib.hid (pbothers_any b d P T w hP hT)
  have HLow := Lib.hid (fun (x : Int) (e : drawnL (othersL P T) q = some x) => othersL_low (P := P) htk (drawnL_mem e))
  have kw : wrap64 (now + P.per) = now + P.per := by have := (timeOk_iff now).1 hnow; have := hok.per; unfold wrap64; omega
  have HD : Hid (∀ u a n c N, RowU u N a n c (othersL P T) → Calls Try.prog 56 #[.slice a n c, .int .u32 (q : Int)] u fun e w' => e = .returned (.tuple #[.int .u16 (drawnR (othersL P T) q).1, .bool (drawnR (othersL P T) q).2]) ∧ w' = u) :=
    Lib.hid (fun u a n c N hR => pbdrawn_any a n c N (othersL P T) q hq u hR _ _ rfl)
  have HP := Lib.hid hP
  cases hdr : drawnL (othersL P T) q with
  | none =>
    have hR : drawnR (othersL P T) q = (0, false) := by unfold drawnR; rw [hdr]
    have hA : askP P T now q = ⟨P, T, [], []⟩ := by unfold askP; rw [hdr]
    rw [hA]
    rw [hR] at HD
    clear hA hR hdr HLow hP hT hok htk hnow kw hq
    generalize othersL P T = L at *
    dsimp only at HD
    go_enter Try.func37, Try.ntmps37
    go_wp2_with (go_at_call 54; refine HO.out.mono ?_; rintro e w1 ⟨a1, n1, c1, rfl, r1, q1⟩; replace r1 := Lib.hid r1; replace q1 := Lib.hid q1; refine Hid.out ?_)
    refine Lib.hid ?_
    have HD1 := Lib.hid (HD.out w1 a1 n1 c1 _ r1.out)
    go_wp2_with (go_at_call 56; refine HD1.out.mono ?_; rintro e w2 ⟨rfl, rfl⟩)
    go_ret
    exact ⟨_, _, _, rfl, OutsAt.nil _ _, HP.out.on q1.out, grownBy_of_below q1.out⟩
  | some x =>
    have hR : drawnR (othersL P T) q = (x, true) := by unfold drawnR; rw [hdr]
    have hx := HLow.out x hdr
    obtain ⟨xk, rfl⟩ : ∃ xk : Nat, x = (xk : Int) := ⟨x.toNat, by omega⟩
    have hA : askP P T now q = ⟨{ P with qn := xk, qs := wrap64 (P.qs + 1), qt := now, qo := true, qh := false, due := now + P.per }, T, [⟨(xk : Int), 0, P.s, (xk : Int), wrap64 (P.qs + 1)⟩], []⟩ := by unfold askP; rw [hdr]; rfl
    rw [hA]
    rw [hR] at HD
    have HOut := Lib.hid (fun (u : World) (P' : Pb) (h : PbBlk u b P') => pbout_any b P' (xk : Int) 0 u h)
    clear hA hR hdr HLow hP hT hok htk hnow hq hx
    generalize othersL P T = L at *
    dsimp only at HD
    have HQ : Hid (∀ u : World, PbBlk u b P → PbBlk ((stQ u b (xk : Int) (wrap64 (P.qs + 1)) now).setCell ⟨b, 8, none⟩ (.int .i64 (now + P.per))) b { P with qn := xk, qs := wrap64 (P.qs + 1), qt := now, qo := true, qh := false, due := now + P.per }) :=
      Lib.hid (fun u h => (h.setQ xk _ now).setDue _)
    have HG : Hid (∀ u : World, u.grownBy ((stQ u b (xk : Int) (wrap64 (P.qs + 1)) now).setCell ⟨b, 8, none⟩ (.int .i64 (now + P.per))) (some b)) := Lib.hid (fun u => (stQ_grown _ _ _ _ _).trans (grownBy_setCell _ b _ _))
    go_enter Try.func37, Try.ntmps37
    go_wp2_with (go_at_call 54; refine HO.out.mono ?_; rintro e w1 ⟨a1, n1, c1, rfl, r1, q1⟩; replace r1 := Lib.hid r1; replace q1 := Lib.hid q1; refine Hid.out ?_)
    refine Lib.hid ?_
    have HD1 := Lib.hid (HD.out w1 a1 n1 c1 _ r1.out)
    have hP1 := HP.out.on q1.out
    obtain ⟨c0, c1', c2, c3, c4, c5, c6, c7, c8⟩ := hP1.at
    have f0 := hP1.f
    have HP1 := Lib.hid hP1
    have HQ1 := Lib.hid (HQ.out w1 hP1)
    have HG1 := Lib.hid (HG.out w1)
    clear hP1 HO r1
    go_wp2_with (go_at_call 56; refine HD1.out.mono ?_; rintro e w2 ⟨rfl, rfl⟩; refine Hid.out ?_)
    refine Lib.hid ?_
    go_wp2_with (go_at_call 57; refine (HOut.out _ _ HQ1.out).mono ?_; rintro e w3 ⟨a3, n3, c3, rfl, o3, q3⟩; replace o3 := Lib.hid o3; replace q3 := Lib.hid q3; refine Hid.out ?_)
    refine Lib.hid ?_
    go_wp2
    go_ret
    refine ⟨_, _, _, rfl, o3.out.base (by have := q1.out.size; have := HG1.out.size; omega), HQ1.out.on q3.out, ?_⟩
    exact (grownBy_of_below q1.out).trans (HG1.out.trans (grownBy_of_below q3.out))

end Go.Proofs.Ytnoconampcemoaa
