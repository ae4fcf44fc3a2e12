/-
  Entries, and what Above, Later, Check and Counts of package entry tell of them.
-/
import Derived.Test.YtkbonifbnbdbkabE1
import Derived.Deep.RegionHeld3
import Derived.Laws.StructEq
namespace Go.Proofs.Ytkbonifbnbdbkab
open Go.RowKit

/-- One operation is taken first, its slot said. -/
theorem wpAnyH_takeE {P : Program} {ops : Array Oper} {Q : Exit → Act → World → Prop} {md : Region.Mode} {S : World → Prop} {i : Nat} (dst : Option Nat) {oi : Oper} {v : Value} {fuel : Nat} {listed : Array Bool} {a : Act} {w : World} (hi : ops[i]? = some oi) (hd : oi.dst = dst)
    (hs : Region.noSelect ops = true) (hf : Region.free md ops listed i = true) (hr : (Region.ready md ops listed).contains i = true)
    (hQ : ∀ c a w, Q (.panic c) (a.put dst v) w → Q (.panic c) a w) (hy : YieldsIf P ops S oi v a) (hS : S w)
    (h : wpAnyH P md ops Q S fuel (listed.setIfInBounds i true) (a.put dst v) w) : wpAnyH P md ops Q S (fuel + 1) listed a w := by
  subst hd
  exact wpAnyH_take hi hs hf hr hQ hy hS h

/-- An entry. -/
structure Ent where
  k : ByteArray
  t : Int
  o : Int
  v : ByteArray
  u : Int
/-- The cells of an entry. -/
abbrev Ent.cells (x : Ent) : Array Value := #[.string x.k, .int .i64 x.t, .int .u16 x.o, .string x.v, .int .i64 x.u]
def Ent.val (x : Ent) : Value := .agg #[.string x.k, .int .i64 x.t, .int .u16 x.o, .string x.v, .int .i64 x.u]
def zeroE : Ent := ⟨⟨#[]⟩, 0, 0, ⟨#[]⟩, 0⟩
/-- A block of one entry. -/
def EBlk (w : World) (B : Nat) (x : Ent) : Prop := w.heap[B]? = some (.cells #[.string x.k, .int .i64 x.t, .int .u16 x.o, .string x.v, .int .i64 x.u] 36 (0, 0))
theorem EBlk.lt {w : World} {B : Nat} {x : Ent} (h : EBlk w B x) : B < w.heap.size := ltE h
theorem EBlk.below {w w' : World} {B N : Nat} {x : Ent} (h : EBlk w B x) (hb : Below N w w') (hN : B < N) : EBlk w' B x := (hb.block B hN).trans h
theorem EBlk.on {w w' : World} {B : Nat} {x : Ent} (h : EBlk w B x) (hb : Below w.heap.size w w') : EBlk w' B x := h.below hb h.lt
theorem EBlk.drew {w : World} {B : Nat} {x : Ent} (h : EBlk w B x) : EBlk w.drew B x := h
theorem EBlk.new (w : World) (x : Ent) : EBlk (w.alloc (.cells #[.string x.k, .int .i64 x.t, .int .u16 x.o, .string x.v, .int .i64 x.u] 36)) w.heap.size x := newE w _
theorem EBlk.c0 {w : World} {B : Nat} {x : Ent} (h : EBlk w B x) : w.cell? ⟨B, 0, none⟩ = some (.string x.k) := cellE h
theorem EBlk.c1 {w : World} {B : Nat} {x : Ent} (h : EBlk w B x) : w.cell? ⟨B, 1, none⟩ = some (.int .i64 x.t) := cellE h
theorem EBlk.c2 {w : World} {B : Nat} {x : Ent} (h : EBlk w B x) : w.cell? ⟨B, 2, none⟩ = some (.int .u16 x.o) := cellE h
theorem EBlk.c3 {w : World} {B : Nat} {x : Ent} (h : EBlk w B x) : w.cell? ⟨B, 3, none⟩ = some (.string x.v) := cellE h
theorem EBlk.c4 {w : World} {B : Nat} {x : Ent} (h : EBlk w B x) : w.cell? ⟨B, 4, none⟩ = some (.int .i64 x.u) := cellE h
theorem EBlk.f {w : World} {B : Nat} {x : Ent} (h : EBlk w B x) (j : Nat) : w.frozen? ⟨B, j, none⟩ = false := by
  unfold EBlk at h
  simp [World.frozen?, h]
theorem EBlk.other {w : World} {B : Nat} {x : Ent} (h : EBlk w B x) {p : Addr} (hp : B ≠ p.block) (v : Value) : EBlk (w.setCell p v) B x := (Below.heap_setCell w p v B hp).trans h
/-- A block stored into, cell by cell. -/
def stE (w : World) (B : Nat) (y : Ent) : World := ((((w.setCell ⟨B, 0, none⟩ (.string y.k)).setCell ⟨B, 1, none⟩ (.int .i64 y.t)).setCell ⟨B, 2, none⟩ (.int .u16 y.o)).setCell ⟨B, 3, none⟩ (.string y.v)).setCell ⟨B, 4, none⟩ (.int .i64 y.u)
theorem EBlk.store {w : World} {B : Nat} {x : Ent} (h : EBlk w B x) (y : Ent) : EBlk (stE w B y) B y := by
  unfold EBlk at h ⊢
  unfold stE
  simp [World.setCell, Array.getElem?_modify, h]
theorem stE_below {a w : World} {N B : Nat} (h : Below N a w) (hB : N ≤ B) (y : Ent) : Below N a (stE w B y) :=
  ((((h.setCell (p := ⟨B, 0, none⟩) hB _).setCell (p := ⟨B, 1, none⟩) hB _).setCell (p := ⟨B, 2, none⟩) hB _).setCell (p := ⟨B, 3, none⟩) hB _).setCell (p := ⟨B, 4, none⟩) hB _

/-- Which of two entries is above. -/
def aboveE (x y : Ent) : Bool := firstP [cmpIE x.t y.t, cmpIE x.o y.o, Lib.compareBytes x.v.data.toList y.v.data.toList, cmpIE x.u y.u]
def laterE (x y : Ent) : Ent := if aboveE x y then x else y

set_option maxHeartbeats 4000000 in
set_option maxRecDepth 100000 in
theorem eAbove_any (x y : Ent) (W : World) : Calls Try.prog 30 #[.agg #[.string x.k, .int .i64 x.t, .int .u16 x.o, .string x.v, .int .i64 x.u], .agg #[.string y.k, .int .i64 y.t, .int .u16 y.o, .string y.v, .int .i64 y.u]] W fun e w' => e = .returned (.bool (aboveE x y)) ∧ Below W.heap.size W w' := by
  have hcon := fun W' => Any.strings_Compare Try.lCompare x.v y.v W'
  change ∀ W', Calls Try.prog 41 _ _ _ at hcon
  obtain ⟨kx, tx, ox, vx, ux⟩ := x
  obtain ⟨ky, ty, oy, vy, uy⟩ := y
  unfold aboveE
  dsimp only at hcon ⊢
  generalize Lib.compareBytes vx.data.toList vy.data.toList = r at hcon ⊢
  have HC := Lib.hid hcon
  have HI := Lib.hid (fun w => cmpIntE_any tx ty w)
  have HJ := Lib.hid (fun w => cmpIntE_any ux uy w)
  have HU := Lib.hid (fun w => cmpUE_any ox oy w)
  generalize cmpIE tx ty = r1 at *
  generalize cmpIE ux uy = r4 at *
  generalize cmpIE ox oy = r2 at *
  clear hcon
  have b1 := EBlk.new W ⟨kx, tx, ox, vx, ux⟩
  have d1 := (Below.refl _ W).alloc (Nat.le_refl _) (.cells #[.string kx, .int .i64 tx, .int .u16 ox, .string vx, .int .i64 ux] 36)
  have d2 := (Below.refl _ (W.alloc (.cells #[.string kx, .int .i64 tx, .int .u16 ox, .string vx, .int .i64 ux] 36))).alloc (Nat.le_refl _) (.cells #[.string ky, .int .i64 ty, .int .u16 oy, .string vy, .int .i64 uy] 36)
  have b2 := b1.on d2
  have c2 := EBlk.new (W.alloc (.cells #[.string kx, .int .i64 tx, .int .u16 ox, .string vx, .int .i64 ux] 36)) ⟨ky, ty, oy, vy, uy⟩
  have sz : (W.alloc (.cells #[.string kx, .int .i64 tx, .int .u16 ox, .string vx, .int .i64 ux] 36)).heap.size = W.heap.size + 1 := by simp
  rw [sz] at c2
  have d3 := d1.trans (d2.mono (by simp))
  have HZ := Lib.hid (And.intro b2 (And.intro c2 d3))
  clear b1 d2 b2 c2 sz d1 d3
  go_enter Try.func30, Try.ntmps30
  go_wp2_with fail
  obtain ⟨b2, c2, d3⟩ := HZ.out
  generalize hw2 : ((W.alloc (.cells #[.string kx, .int .i64 tx, .int .u16 ox, .string vx, .int .i64 ux] 36)).alloc (.cells #[.string ky, .int .i64 ty, .int .u16 oy, .string vy, .int .i64 uy] 36)) = w2 at *
  clear hw2 HZ
  have HB := Lib.hid d3
  clear d3
  refine wp_region_any (by kernel_rfl) ?_
  change wpAny _ _ _ _ _ _ _ (World.drew _)
  have hS : (fun w' : World => EBlk w' W.heap.size ⟨kx, tx, ox, vx, ux⟩ ∧ EBlk w' (W.heap.size + 1) ⟨ky, ty, oy, vy, uy⟩) w2.drew := ⟨b2, c2⟩
  refine wpAny_of_held (S := fun w' => EBlk w' W.heap.size ⟨kx, tx, ox, vx, ux⟩ ∧ EBlk w' (W.heap.size + 1) ⟨ky, ty, oy, vy, uy⟩) _ _ _ _ ?_
  refine wpAnyH_takeE (i := 0) (some 5) (v := ?_) rfl rfl (by as_aux_lemma => kernel_rfl) (by as_aux_lemma => kernel_rfl) (by as_aux_lemma => kernel_rfl) (fun _ _ _ h => h) (Or.inl ⟨by kernel_rfl, ?_⟩) hS ?_
  rotate_left
  · intro w hSw; have c1 := hSw.1.c1; have c2 := hSw.1.c2; have c3 := hSw.1.c3; have c4 := hSw.1.c4; have e1 := hSw.2.c1; have e2 := hSw.2.c2; have e3 := hSw.2.c3; have e4 := hSw.2.c4; go_simp
    first | done | with_reducible rfl
  refine wpAnyH_takeE (i := 1) (some 6) (v := ?_) rfl rfl (by as_aux_lemma => kernel_rfl) (by as_aux_lemma => kernel_rfl) (by as_aux_lemma => kernel_rfl) (fun _ _ _ h => h) (Or.inl ⟨by kernel_rfl, ?_⟩) hS ?_
  rotate_left
  · intro w hSw; have c1 := hSw.1.c1; have c2 := hSw.1.c2; have c3 := hSw.1.c3; have c4 := hSw.1.c4; have e1 := hSw.2.c1; have e2 := hSw.2.c2; have e3 := hSw.2.c3; have e4 := hSw.2.c4; go_simp
    first | done | with_reducible rfl
  refine wpAnyH_takeE (i := 2) (some 7) (v := ?_) rfl rfl (by as_aux_lemma => kernel_rfl) (by as_aux_lemma => kernel_rfl) (by as_aux_lemma => kernel_rfl) (fun _ _ _ h => h) (Or.inl ⟨by kernel_rfl, ?_⟩) hS ?_
  rotate_left
  · intro w hSw; have c1 := hSw.1.c1; have c2 := hSw.1.c2; have c3 := hSw.1.c3; have c4 := hSw.1.c4; have e1 := hSw.2.c1; have e2 := hSw.2.c2; have e3 := hSw.2.c3; have e4 := hSw.2.c4; go_simp
    first | done | with_reducible rfl
  refine wpAnyH_takeE (i := 3) (some 8) (v := ?_) rfl rfl (by as_aux_lemma => kernel_rfl) (by as_aux_lemma => kernel_rfl) (by as_aux_lemma => kernel_rfl) (fun _ _ _ h => h) (Or.inl ⟨by kernel_rfl, ?_⟩) hS ?_
  rotate_left
  · intro w hSw; have c1 := hSw.1.c1; have c2 := hSw.1.c2; have c3 := hSw.1.c3; have c4 := hSw.1.c4; have e1 := hSw.2.c1; have e2 := hSw.2.c2; have e3 := hSw.2.c3; have e4 := hSw.2.c4; go_simp
    first | done | with_reducible rfl
  refine wpAnyH_takeE (i := 5) (some 10) (v := ?_) rfl rfl (by as_aux_lemma => kernel_rfl) (by as_aux_lemma => kernel_rfl) (by as_aux_lemma => kernel_rfl) (fun _ _ _ h => h) (Or.inl ⟨by kernel_rfl, ?_⟩) hS ?_
  rotate_left
  · intro w hSw; have c1 := hSw.1.c1; have c2 := hSw.1.c2; have c3 := hSw.1.c3; have c4 := hSw.1.c4; have e1 := hSw.2.c1; have e2 := hSw.2.c2; have e3 := hSw.2.c3; have e4 := hSw.2.c4; go_simp
    first | done | with_reducible rfl
  refine wpAnyH_takeE (i := 6) (some 11) (v := ?_) rfl rfl (by as_aux_lemma => kernel_rfl) (by as_aux_lemma => kernel_rfl) (by as_aux_lemma => kernel_rfl) (fun _ _ _ h => h) (Or.inl ⟨by kernel_rfl, ?_⟩) hS ?_
  rotate_left
  · intro w hSw; have c1 := hSw.1.c1; have c2 := hSw.1.c2; have c3 := hSw.1.c3; have c4 := hSw.1.c4; have e1 := hSw.2.c1; have e2 := hSw.2.c2; have e3 := hSw.2.c3; have e4 := hSw.2.c4; go_simp
    first | done | with_reducible rfl
  refine wpAnyH_takeE (i := 7) (some 12) (v := ?_) rfl rfl (by as_aux_lemma => kernel_rfl) (by as_aux_lemma => kernel_rfl) (by as_aux_lemma => kernel_rfl) (fun _ _ _ h => h) (Or.inl ⟨by kernel_rfl, ?_⟩) hS ?_
  rotate_left
  · intro w hSw; have c1 := hSw.1.c1; have c2 := hSw.1.c2; have c3 := hSw.1.c3; have c4 := hSw.1.c4; have e1 := hSw.2.c1; have e2 := hSw.2.c2; have e3 := hSw.2.c3; have e4 := hSw.2.c4; go_simp
    first | done | with_reducible rfl
  refine wpAnyH_takeE (i := 8) (some 13) (v := ?_) rfl rfl (by as_aux_lemma => kernel_rfl) (by as_aux_lemma => kernel_rfl) (by as_aux_lemma => kernel_rfl) (fun _ _ _ h => h) (Or.inl ⟨by kernel_rfl, ?_⟩) hS ?_
  rotate_left
  · intro w hSw; have c1 := hSw.1.c1; have c2 := hSw.1.c2; have c3 := hSw.1.c3; have c4 := hSw.1.c4; have e1 := hSw.2.c1; have e2 := hSw.2.c2; have e3 := hSw.2.c3; have e4 := hSw.2.c4; go_simp
    first | done | with_reducible rfl
  refine wpAnyH_takeE (i := 10) (some 15) (v := ?_) rfl rfl (by as_aux_lemma => kernel_rfl) (by as_aux_lemma => kernel_rfl) (by as_aux_lemma => kernel_rfl) (fun _ _ _ h => h) (Or.inl ⟨by kernel_rfl, ?_⟩) hS ?_
  rotate_left
  · intro w hSw; have c1 := hSw.1.c1; have c2 := hSw.1.c2; have c3 := hSw.1.c3; have c4 := hSw.1.c4; have e1 := hSw.2.c1; have e2 := hSw.2.c2; have e3 := hSw.2.c3; have e4 := hSw.2.c4; go_simp
    first | done | with_reducible rfl
  refine wpAnyH_takeE (i := 11) (some 16) (v := ?_) rfl rfl (by as_aux_lemma => kernel_rfl) (by as_aux_lemma => kernel_rfl) (by as_aux_lemma => kernel_rfl) (fun _ _ _ h => h) (Or.inl ⟨by kernel_rfl, ?_⟩) hS ?_
  rotate_left
  · intro w hSw; have c1 := hSw.1.c1; have c2 := hSw.1.c2; have c3 := hSw.1.c3; have c4 := hSw.1.c4; have e1 := hSw.2.c1; have e2 := hSw.2.c2; have e3 := hSw.2.c3; have e4 := hSw.2.c4; go_simp
    first | done | with_reducible rfl
  refine wpAnyH_takeE (i := 12) (some 17) (v := ?_) rfl rfl (by as_aux_lemma => kernel_rfl) (by as_aux_lemma => kernel_rfl) (by as_aux_lemma => kernel_rfl) (fun _ _ _ h => h) (Or.inl ⟨by kernel_rfl, ?_⟩) hS ?_
  rotate_left
  · intro w hSw; have c1 := hSw.1.c1; have c2 := hSw.1.c2; have c3 := hSw.1.c3; have c4 := hSw.1.c4; have e1 := hSw.2.c1; have e2 := hSw.2.c2; have e3 := hSw.2.c3; have e4 := hSw.2.c4; go_simp
    first | done | with_reducible rfl
  refine wpAnyH_takeE (i := 13) (some 18) (v := ?_) rfl rfl (by as_aux_lemma => kernel_rfl) (by as_aux_lemma => kernel_rfl) (by as_aux_lemma => kernel_rfl) (fun _ _ _ h => h) (Or.inl ⟨by kernel_rfl, ?_⟩) hS ?_
  rotate_left
  · intro w hSw; have c1 := hSw.1.c1; have c2 := hSw.1.c2; have c3 := hSw.1.c3; have c4 := hSw.1.c4; have e1 := hSw.2.c1; have e2 := hSw.2.c2; have e3 := hSw.2.c3; have e4 := hSw.2.c4; go_simp
    first | done | with_reducible rfl
  refine wpAnyH_takeE (i := 15) (some 20) (v := ?_) rfl rfl (by as_aux_lemma => kernel_rfl) (by as_aux_lemma => kernel_rfl) (by as_aux_lemma => kernel_rfl) (fun _ _ _ h => h) (Or.inl ⟨by kernel_rfl, ?_⟩) hS ?_
  rotate_left
  · intro w hSw; have c1 := hSw.1.c1; have c2 := hSw.1.c2; have c3 := hSw.1.c3; have c4 := hSw.1.c4; have e1 := hSw.2.c1; have e2 := hSw.2.c2; have e3 := hSw.2.c3; have e4 := hSw.2.c4; go_simp
    first | done | with_reducible rfl
  refine wpAnyH_takeE (i := 16) (some 21) (v := ?_) rfl rfl (by as_aux_lemma => kernel_rfl) (by as_aux_lemma => kernel_rfl) (by as_aux_lemma => kernel_rfl) (fun _ _ _ h => h) (Or.inl ⟨by kernel_rfl, ?_⟩) hS ?_
  rotate_left
  · intro w hSw; have c1 := hSw.1.c1; have c2 := hSw.1.c2; have c3 := hSw.1.c3; have c4 := hSw.1.c4; have e1 := hSw.2.c1; have e2 := hSw.2.c2; have e3 := hSw.2.c3; have e4 := hSw.2.c4; go_simp
    first | done | with_reducible rfl
  refine wpAnyH_takeE (i := 17) (some 22) (v := ?_) rfl rfl (by as_aux_lemma => kernel_rfl) (by as_aux_lemma => kernel_rfl) (by as_aux_lemma => kernel_rfl) (fun _ _ _ h => h) (Or.inl ⟨by kernel_rfl, ?_⟩) hS ?_
  rotate_left
  · intro w hSw; have c1 := hSw.1.c1; have c2 := hSw.1.c2; have c3 := hSw.1.c3; have c4 := hSw.1.c4; have e1 := hSw.2.c1; have e2 := hSw.2.c2; have e3 := hSw.2.c3; have e4 := hSw.2.c4; go_simp
    first | done | with_reducible rfl
  refine wpAnyH_takeE (i := 18) (some 23) (v := ?_) rfl rfl (by as_aux_lemma => kernel_rfl) (by as_aux_lemma => kernel_rfl) (by as_aux_lemma => kernel_rfl) (fun _ _ _ h => h) (Or.inl ⟨by kernel_rfl, ?_⟩) hS ?_
  rotate_left
  · intro w hSw; have c1 := hSw.1.c1; have c2 := hSw.1.c2; have c3 := hSw.1.c3; have c4 := hSw.1.c4; have e1 := hSw.2.c1; have e2 := hSw.2.c2; have e3 := hSw.2.c3; have e4 := hSw.2.c4; go_simp
    first | done | with_reducible rfl
  clear b2 c2
  refine wpAnyH_ready (rs := [4]) (by as_aux_lemma => kernel_rfl) (by simp) ?_
  refine AllReadyH.cons rfl (fun K hK => ?_) AllReadyH.nil
  go_simp
  go_wp2_with (go_at_call 39; refine (HI.out _).mono ?_; rintro e w3 ⟨rfl, rfl⟩)
  refine hK.out _ _ ?_ (fun hS => ?_)
  · exact hS
  clear hK K
  refine wpAnyH_ready (rs := [9]) (by as_aux_lemma => kernel_rfl) (by simp) ?_
  refine AllReadyH.cons rfl (fun K hK => ?_) AllReadyH.nil
  go_simp
  go_wp2_with (go_at_call 40; refine (HU.out _).mono ?_; rintro e w3 ⟨rfl, rfl⟩)
  refine hK.out _ _ ?_ (fun hS => ?_)
  · exact hS
  clear hK K
  refine wpAnyH_ready (rs := [14]) (by as_aux_lemma => kernel_rfl) (by simp) ?_
  refine AllReadyH.cons rfl (fun K hK => ?_) AllReadyH.nil
  go_simp
  go_wp2_with (go_at_call 41; refine (HC.out _).mono ?_; rintro e w3 ⟨rfl, rfl⟩)
  refine hK.out _ _ ?_ (fun hS => ?_)
  · exact hS
  clear hK K
  refine wpAnyH_ready (rs := [19]) (by as_aux_lemma => kernel_rfl) (by simp) ?_
  refine AllReadyH.cons rfl (fun K hK => ?_) AllReadyH.nil
  go_simp
  go_wp2_with (go_at_call 39; refine (HJ.out _).mono ?_; rintro e w3 ⟨rfl, rfl⟩)
  refine hK.out _ _ ?_ (fun hS => ?_)
  · exact hS
  clear hK K
  refine wpAnyH_ready (rs := [20]) (by as_aux_lemma => kernel_rfl) (by simp) ?_
  refine AllReadyH.cons rfl (fun K hK => ?_) AllReadyH.nil
  go_simp
  go_wp2_with (fail)
  refine hK.out _ _ ?_ (fun hS => ?_)
  · exact ⟨hS.1.on ((Below.refl w2.heap.size w2.drew).alloc (Nat.le_refl _) _), hS.2.on ((Below.refl w2.heap.size w2.drew).alloc (Nat.le_refl _) _)⟩
  clear hK K
  have n0 := newE w2.drew (.cells #[.int .i64 r1, .int .i64 r2, .int .i64 r, .int .i64 r4] 3)
  have HO := Lib.hid (eFirst_any w2.drew.heap.size [r1, r2, r, r4] _ (fun i hi => by
    rw [cellE n0]
    match i, hi with
    | 0, _ => rfl
    | 1, _ => rfl
    | 2, _ => rfl
    | 3, _ => rfl) (by simp) 4 rfl)
  have HK : Hid (Below W.heap.size W (w2.drew.alloc (.cells #[.int .i64 r1, .int .i64 r2, .int .i64 r, .int .i64 r4] 3))) := Lib.hid (HB.out.drew.alloc HB.out.size _)
  clear n0
  refine wpAnyH_ready (rs := [21]) (by as_aux_lemma => kernel_rfl) (by simp) ?_
  refine AllReadyH.cons rfl (fun K hK => ?_) AllReadyH.nil
  go_simp
  go_wp2_with (go_at_call 38; refine HO.out.mono ?_; rintro e w3 ⟨rfl, rfl⟩)
  refine hK.out _ _ ?_ (fun hS => ?_)
  · exact hS
  clear hK K
  refine wpAnyH_takeE (i := 22) (some 4) (v := ?_) rfl rfl (by as_aux_lemma => kernel_rfl) (by as_aux_lemma => kernel_rfl) (by as_aux_lemma => kernel_rfl) (fun _ _ _ h => h) (Or.inl ⟨by kernel_rfl, ?_⟩) hS ?_
  rotate_left
  · intro w hSw; skip; go_simp
    first | done | with_reducible rfl
  refine wpAnyH_done (by kernel_rfl) ?_ _
  go_wp2
  go_ret
  exact ⟨rfl, HK.out⟩

set_option maxHeartbeats 1000000 in
set_option maxRecDepth 20000 in
theorem eCounts_any (x : Ent) (now : Int) (W : World) : Calls Try.prog 28 #[.agg #[.string x.k, .int .i64 x.t, .int .u16 x.o, .string x.v, .int .i64 x.u], .int .i64 now] W fun e w' => e = .returned (.bool (decide (now < x.u))) ∧ Below W.heap.size W w' := by
  have d1 := (Below.refl _ W).alloc (Nat.le_refl _) (.cells #[.string x.k, .int .i64 x.t, .int .u16 x.o, .string x.v, .int .i64 x.u] 36)
  have HD := Lib.hid d1
  clear d1
  go_enter Try.func28, Try.ntmps28
  go_wp2
  go_ret
  exact ⟨rfl, HD.out⟩

end Go.Proofs.Ytkbonifbnbdbkab
