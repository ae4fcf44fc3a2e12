/-
  What the walks of layer 16 hold of a probe and a table; the closed case of its statements.
-/
import Derived.Test.YtnoconampcemoaaO9
import Derived.Test.YtnoconampcemoaaB10
namespace Go.Proofs.Ytnoconampcemoaa
open Go Go.RowKit

/-- What a walk holds of a probe and a table that it made. -/
structure PSt (W wr : World) (b d : Nat) (P : Pb) (T : Tb) : Prop where
  pok : PbOk P
  tok : TbOk T
  pb : PbBlk wr b P
  tab : TabBlk wr d T
  below : Below W.heap.size W wr
  lb : W.heap.size ≤ b
  ld : W.heap.size ≤ d
  ne : b ≠ d
theorem PSt.on {W wr u : World} {b d : Nat} {P : Pb} {T : Tb} (h : PSt W wr b d P T) (q : Below wr.heap.size wr u) : PSt W u b d P T :=
  ⟨h.pok, h.tok, h.pb.on q, h.tab.on q, h.below.trans (q.mono h.below.size), h.lb, h.ld, h.ne⟩
theorem PSt.turn {W wr u : World} {b d : Nat} {P P' : Pb} {T T' : Tb} (h : PSt W wr b d P T) (hp : PbOk P') (ht : TbOk T') (p : PbBlk u b P') (t : TabBlk u d T') (g : Grown2 wr u b d) : PSt W u b d P' T' :=
  ⟨hp, ht, p, t, Below.grown2 h.below g h.below.size h.lb h.ld, h.lb, h.ld, h.ne⟩
theorem PSt.probe {W wr u : World} {b d : Nat} {P P' : Pb} {T : Tb} (h : PSt W wr b d P T) (hp : PbOk P') (p : PbBlk u b P') (g : wr.grownBy u (some b)) : PSt W u b d P' T :=
  h.turn hp h.tok p (h.tab.kept g (by have := h.ne; simp; omega)) (Grown2.one g)
theorem PSt.table {W wr u : World} {b d : Nat} {P : Pb} {T T' : Tb} (h : PSt W wr b d P T) (ht : TbOk T') (t : TabBlk u d T') (g : wr.grownBy u (some d)) : PSt W u b d P T' :=
  h.turn h.pok ht (h.pb.kept g (by have := h.ne; simp; omega)) t (Grown2.two g)
/-- Tick, at what a walk holds. -/
def TickP (W wr : World) (b d : Nat) (K : Tk) (e : Ending) (w' : World) : Prop :=
  ∃ a n c a2 n2 c2, e = .returned (.tuple #[.slice a n c, .slice a2 n2 c2]) ∧ OutsAt w' wr.heap.size a n c K.o ∧ OwnMx w' wr.heap.size (.slice a2 n2 c2) K.n ∧ n2 = K.n.length ∧ PSt W w' b d K.P K.T ∧ Grown2 wr w' b d
theorem PSt.tick {W wr : World} {b d : Nat} {P : Pb} {T : Tb} (h : PSt W wr b d P T) (now : Int) (q : Nat) (hq : q < 4294967296) :
    Calls Try.prog 15 #[.pointer (some ⟨b, 0, none⟩), .int .i64 now, .int .u32 (q : Int), .pointer (some ⟨d, 0, none⟩)] wr (TickP W wr b d (tickAny P T now q)) := by
  refine (pbTick_any b d P T now q hq wr h.pb h.tab h.pok h.tok h.ne).mono ?_
  rintro e w' ⟨a, n, c, a2, n2, c2, rfl, h1, h2, h3, h4, h5⟩
  obtain ⟨k1, k2⟩ := tickAny_ok h.tok h.pok now q
  refine ⟨a, n, c, a2, n2, c2, rfl, h1, h2, ?_, h.turn k2 k1 h3 h4 h5, h5⟩
  obtain ⟨x, y, e, -⟩ := h2.form
  simp only [Value.slice.injEq] at e
  exact e.2.1
/-- The cells of the one packet that goes out. -/
theorem OutsAt.one {w : World} {B : Nat} {a : Option Addr} {n c : Nat} {o : Ou} (h : OutsAt w B a n c [o]) :
    ∃ g, a = some ⟨g, 0, none⟩ ∧ n = 1 ∧ B ≤ g ∧ g < w.heap.size ∧ w.cell? ⟨g, 0, none⟩ = some (.int .u16 o.to) ∧ w.cell? ⟨g, 1, none⟩ = some (.int .u8 o.kind) ∧ w.cell? ⟨g, 2, none⟩ = some (.int .u16 o.frm) ∧ w.cell? ⟨g, 3, none⟩ = some (.int .u16 o.about) ∧ w.cell? ⟨g, 4, none⟩ = some (.int .i64 o.seq) := by
  rcases h with ⟨h, -⟩ | ⟨o', g, h1, rfl, h3, h4, h5, h6⟩
  · cases h
  · obtain rfl := (List.cons.inj h1).1
    exact ⟨g, rfl, h3, h5, ltE h6, cellE h6, cellE h6, cellE h6, cellE h6, cellE h6⟩
theorem OutsAt.none {w : World} {B : Nat} {a : Option Addr} {n c : Nat} (h : OutsAt w B a n c []) : a = .none ∧ n = 0 ∧ c = 0 := by
  rcases h with ⟨-, h⟩ | ⟨o', g, h1, -⟩
  · exact h
  · cases h1
theorem OwnMx.one {w : World} {B : Nat} {a : Option Addr} {n c : Nat} {m : Mem} (h : OwnMx w B (.slice a n c) [m]) :
    ∃ g, a = some ⟨g, 0, none⟩ ∧ n = 1 ∧ w.cell? ⟨g, 0, none⟩ = some (.int .u16 m.n) ∧ w.cell? ⟨g, 1, none⟩ = some (.int .u8 m.s) ∧ w.cell? ⟨g, 2, none⟩ = some (.int .i64 m.i) := by
  rcases h.2 with ⟨-, h0⟩ | ⟨g, cap, cur, e, hg, hh, -⟩
  · cases h0
  · simp only [Value.slice.injEq] at e
    obtain ⟨rfl, rfl, rfl⟩ := e
    have hc : ∀ j v, (encM m)[j]? = some v → w.cell? ⟨g, j, none⟩ = some v := fun j v hv => by
      have hj := (List.getElem?_eq_some_iff.1 hv).1
      rw [show ([m] : List Mem).length = 1 from rfl] at h
      rw [World.ownsRow.cellAt h j (by have : (encM m).length = 3 := rfl; show j < 1 * 3; omega)]
      simpa [cellsMx] using hv
    exact ⟨g, rfl, rfl, hc 0 _ rfl, hc 1 _ rfl, hc 2 _ rfl⟩
def aP0 : Pb := newPb 0 10 3
def aQ1 : Tb := hearB (newB 0) ⟨1, 0, 0⟩
def aK1 : Tk := tickAny aP0 aQ1 0 5
def aK2 : Tk := tickAny aK1.P aK1.T 10 5
theorem aK1_o : aK1.o = [⟨1, 0, 0, 1, 1⟩] := by kernel_rfl
theorem aK2_n : aK2.n = [⟨1, 1, 0⟩] := by kernel_rfl

set_option maxRecDepth 20000 in
set_option maxHeartbeats 8000000 in
theorem pbawake_any (w : World) : Calls Try.prog 10 #[] w fun e w' => e = .returned (.bool true) ∧ Below w.heap.size w w' := by
  have HN := Lib.hid (pbNew_ok 0 10 3 w (by decide) (by decide) (by decide))
  have HM := Lib.hid (fun u => bNew_any 0 u)
  have HH := Lib.hid (fun u b (hu : TabBlk u b (newB 0)) => bHear_any b (newB 0) ⟨1, 0, 0⟩ (by decide) u hu)
  go_enter Try.func10, Try.ntmps10
  go_wp2_with (go_at_call 21; refine HN.out.mono ?_; rintro e w1 ⟨rfl, p1, q1⟩; replace p1 := Lib.hid p1; replace q1 := Lib.hid q1; refine Hid.out ?_)
  refine Lib.hid ?_
  clear HN
  have HM1 := Lib.hid (HM.out w1)
  go_wp2_with (go_at_call 19; refine HM1.out.mono ?_; rintro e w2 ⟨rfl, t2, q2⟩; replace t2 := Lib.hid t2; replace q2 := Lib.hid q2; refine Hid.out ?_)
  refine Lib.hid ?_
  have HS2 : Hid (PSt w w2 w.heap.size w1.heap.size aP0 (newB 0)) := Lib.hid ⟨newPb_ok (by decide) (by decide) (by decide), newB_ok (by decide), p1.out.on q2.out, t2.out, q1.out.trans (q2.out.mono q1.out.size), Nat.le_refl _, q1.out.size, by have := p1.out.lt; omega⟩
  clear p1 t2 q1 q2 HM HM1
  generalize w1.heap.size = d at *
  have HH2 := Lib.hid (HH.out _ _ HS2.out.tab)
  try dsimp only [HearPost] at HH2
  go_wp2_with (go_at_call 20; refine HH2.out.mono ?_; rintro e w3 ⟨rfl, t3, g3⟩; replace t3 := Lib.hid t3; replace g3 := Lib.hid g3; refine Hid.out ?_)
  refine Lib.hid ?_
  have HS3 : Hid (PSt w w3 w.heap.size d aP0 aQ1) := Lib.hid (HS2.out.table (hearB_ok (newB_ok (by decide)) (by decide) (by decide)) t3.out g3.out)
  clear HS2 HH HH2 t3 g3
  generalize heardM (newB 0) ⟨1, 0, 0⟩ = dm at *
  generalize newsB (newB 0) ⟨1, 0, 0⟩ = dr at *
  have HT4 := Lib.hid (HS3.out.tick 0 5 (by decide))
  go_wp2_with (go_at_call 15; refine HT4.out.mono ?_; rintro e w4 ⟨a4, n4, c4, a5, n5, c5, rfl, o4, m4, hn5, s4, g4⟩; replace o4 := Lib.hid o4; replace m4 := Lib.hid m4; replace hn5 := Lib.hid hn5; replace s4 := Lib.hid s4; replace g4 := Lib.hid g4; refine Hid.out ?_)
  refine Lib.hid ?_
  have HO : Hid (OutsAt w4 w3.heap.size a4 n4 c4 [⟨1, 0, 0, 1, 1⟩]) := Lib.hid (by have := o4.out; rwa [show (tickAny aP0 aQ1 0 5).o = [⟨1, 0, 0, 1, 1⟩] from aK1_o] at this)
  obtain ⟨gg, rfl, rfl, -, -, x0, x1, -, -, x4⟩ := HO.out.one
  try dsimp only at x0 x1 x4
  have HT5 := Lib.hid (s4.out.tick 10 5 (by decide))
  clear HT4 HS3 o4 m4 g4 HO
  go_wp2_with (go_at_call 15; refine HT5.out.mono ?_; rintro e w6 ⟨a6, n6, c6, a7, n7, c7, rfl, o6, m6, hn7, s6, g6⟩; replace o6 := Lib.hid o6; replace m6 := Lib.hid m6; replace s6 := Lib.hid s6; refine Hid.out ?_)
  refine Lib.hid ?_
  have HN6 : Hid (OwnMx w6 w4.heap.size (.slice a7 n7 c7) [⟨1, 1, 0⟩]) := Lib.hid (by have := m6.out; rwa [show (tickAny (tickAny aP0 aQ1 0 5).P (tickAny aP0 aQ1 0 5).T 10 5).n = [⟨1, 1, 0⟩] from aK2_n] at this)
  obtain ⟨gh, rfl, rfl, y0, y1, -⟩ := HN6.out.one
  try dsimp only at y0 y1
  have HB := Lib.hid s6.out.below
  clear HT5 s4 s6 m6 o6 hn5 hn7 HN6 g6 x0 x1 x4
  go_wp2
  go_ret
  exact ⟨rfl, HB.out⟩

end Go.Proofs.Ytnoconampcemoaa
