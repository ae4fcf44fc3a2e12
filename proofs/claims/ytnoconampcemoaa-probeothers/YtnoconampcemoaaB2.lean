/-
  What Above, mayBe, denied of package member tell.
-/
import Derived.Test.YtnoconampcemoaaB1
namespace Go.Proofs.Ytnoconampcemoaa
open Go Go.RowKit

/-- A block of one member. -/
def Mb (w : World) (B : Nat) (m : Mem) : Prop := w.heap[B]? = some (.cells #[.int .u16 m.n, .int .u8 m.s, .int .i64 m.i] 43 (0, 0))
theorem Mb.lt {w : World} {B : Nat} {m : Mem} (h : Mb w B m) : B < w.heap.size := ltE h
theorem Mb.below {w w' : World} {B N : Nat} {m : Mem} (h : Mb w B m) (hb : Below N w w') (hN : B < N) : Mb w' B m := (hb.block B hN).trans h
theorem Mb.on {w w' : World} {B : Nat} {m : Mem} (h : Mb w B m) (hb : Below w.heap.size w w') : Mb w' B m := h.below hb h.lt
theorem Mb.new (w : World) (m : Mem) : Mb (w.alloc (.cells #[.int .u16 m.n, .int .u8 m.s, .int .i64 m.i] 43)) w.heap.size m := newE w _
theorem Mb.c0 {w : World} {B : Nat} {m : Mem} (h : Mb w B m) : w.cell? ⟨B, 0, none⟩ = some (.int .u16 m.n) := cellE h
theorem Mb.c1 {w : World} {B : Nat} {m : Mem} (h : Mb w B m) : w.cell? ⟨B, 1, none⟩ = some (.int .u8 m.s) := cellE h
theorem Mb.c2 {w : World} {B : Nat} {m : Mem} (h : Mb w B m) : w.cell? ⟨B, 2, none⟩ = some (.int .i64 m.i) := cellE h
theorem Mb.f {w : World} {B : Nat} {m : Mem} (h : Mb w B m) (j : Nat) : w.frozen? ⟨B, j, none⟩ = false := by
  unfold Mb at h
  simp [World.frozen?, h]
theorem Mb.other {w : World} {B : Nat} {m : Mem} (h : Mb w B m) {p : Addr} (hp : B ≠ p.block) (v : Value) : Mb (w.setCell p v) B m := (Below.heap_setCell w p v B hp).trans h
theorem Mb.kept {w w' : World} {B : Nat} {m : Mem} {r : Option Nat} (h : Mb w B m) (hg : w.grownBy w' r) (hr : some B ≠ r) : Mb w' B m := (hg.block B h.lt hr).trans h
/-- A member stored. -/
def stM (w : World) (B : Nat) (m : Mem) : World := ((w.setCell ⟨B, 0, none⟩ (.int .u16 m.n)).setCell ⟨B, 1, none⟩ (.int .u8 m.s)).setCell ⟨B, 2, none⟩ (.int .i64 m.i)
theorem Mb.store {w : World} {B : Nat} {x : Mem} (h : Mb w B x) (m : Mem) : Mb (stM w B m) B m := by
  unfold Mb at h ⊢
  unfold stM
  simp [World.setCell, Array.getElem?_modify, h]
theorem stM_grown (w : World) (B : Nat) (m : Mem) : w.grownBy (stM w B m) (some B) :=
  ((grownBy_setCell w B _ _).trans (grownBy_setCell _ B _ _)).trans (grownBy_setCell _ B _ _)
theorem stM_below {a w : World} {N B : Nat} (h : Below N a w) (hB : N ≤ B) (m : Mem) : Below N a (stM w B m) :=
  ((h.setCell (p := ⟨B, 0, none⟩) hB _).setCell (p := ⟨B, 1, none⟩) hB _).setCell (p := ⟨B, 2, none⟩) hB _
theorem Mb.load {w : World} {B : Nat} {m : Mem} (h : Mb w B m) : (loadVar 43 ⟨B, 0, none⟩).run Try.prog w = .ok (.agg #[.int .u16 m.n, .int .u8 m.s, .int .i64 m.i]) w :=
  run_loadVar_row w B 43 43 #[.int .u16 m.n, .int .u8 m.s, .int .i64 m.i] (0, 0) _ h Try.underlying43 rfl (by kernel_rfl)
theorem results_mb1 {fn : Func} {p : Tmp} (h : fn.results = #[.cell p 43]) (tmps : Array Value) (w : World) (b : Nat) {m : Mem} (hp : tmps.getD p undef = .pointer (some ⟨b, 0, none⟩)) (ht : Mb w b m) :
    (results fn tmps).run Try.prog w = .ok (.agg #[.int .u16 m.n, .int .u8 m.s, .int .i64 m.i]) w := by
  have hp' : tmps[p]?.getD undef = .pointer (some ⟨b, 0, none⟩) := by simpa using hp
  simp [results, h, hp', asAddr, ht.load]
theorem results_mb2 {fn : Func} {p u : Tmp} (h : fn.results = #[.cell p 43, .tmp u]) (tmps : Array Value) (w : World) (b : Nat) {m : Mem} (hp : tmps.getD p undef = .pointer (some ⟨b, 0, none⟩)) (ht : Mb w b m) :
    (results fn tmps).run Try.prog w = .ok (.tuple #[.agg #[.int .u16 m.n, .int .u8 m.s, .int .i64 m.i], tmps.getD u undef]) w := by
  have hp' : tmps[p]?.getD undef = .pointer (some ⟨b, 0, none⟩) := by simpa using hp
  simp [results, h, hp', asAddr, ht.load]

set_option maxRecDepth 20000 in
set_option maxHeartbeats 1000000 in
theorem bAbove_any (x y : Mem) (w : World) : Calls Try.prog 39 #[.agg #[.int .u16 x.n, .int .u8 x.s, .int .i64 x.i], .agg #[.int .u16 y.n, .int .u8 y.s, .int .i64 y.i]] w fun e w' => e = .returned (.bool (aboveM x y)) ∧ Below w.heap.size w w' := by
  have HQ := Lib.hid (((Below.refl w.heap.size w).alloc (Nat.le_refl _) (.cells #[.int .u16 x.n, .int .u8 x.s, .int .i64 x.i] 43)).alloc (by simp) (.cells #[.int .u16 y.n, .int .u8 y.s, .int .i64 y.i] 43))
  obtain ⟨xn, xs, xi⟩ := x
  obtain ⟨yn, ys, yi⟩ := y
  unfold aboveM
  dsimp only at HQ ⊢
  by_cases h0 : yi < xi
  · go_enter Try.func39, Try.ntmps39
    go_wp2
    go_ret
    exact ⟨by first | (simp; done) | (simp; omega), HQ.out⟩
  by_cases h1 : xi = yi
  · subst h1
    go_enter Try.func39, Try.ntmps39
    go_wp2
    go_ret
    exact ⟨by first | (simp; done) | (simp; omega), HQ.out⟩
  · have h2 : (xi == yi) = false := by simpa using h1
    clear h1
    go_enter Try.func39, Try.ntmps39
    go_wp2
    go_ret
    exact ⟨by first | (simp; done) | (simp; omega), HQ.out⟩
set_option maxRecDepth 20000 in
set_option maxHeartbeats 1000000 in
theorem bmayBe_any (m : Mem) (w : World) : Calls Try.prog 38 #[.agg #[.int .u16 m.n, .int .u8 m.s, .int .i64 m.i]] w fun e w' => e = .returned (.bool (mayM m)) ∧ Below w.heap.size w w' := by
  have HQ := Lib.hid ((Below.refl w.heap.size w).alloc (Nat.le_refl _) (.cells #[.int .u16 m.n, .int .u8 m.s, .int .i64 m.i] 43))
  obtain ⟨n, s, i⟩ := m
  unfold mayM
  dsimp only at HQ ⊢
  by_cases h0 : n < 64
  case neg =>
    go_enter Try.func38, Try.ntmps38
    go_wp2
    go_ret
    exact ⟨by first | (simp; done) | (simp; omega), HQ.out⟩
  by_cases h1 : s ≤ 2
  case neg =>
    go_enter Try.func38, Try.ntmps38
    go_wp2
    go_ret
    exact ⟨by first | (simp; done) | (simp; omega), HQ.out⟩
  by_cases h2 : 0 ≤ i
  case neg =>
    go_enter Try.func38, Try.ntmps38
    go_wp2
    go_ret
    exact ⟨by first | (simp; done) | (simp; omega), HQ.out⟩
  by_cases h3 : i ≤ 1073741824
  · go_enter Try.func38, Try.ntmps38
    go_wp2
    go_ret
    exact ⟨by first | (simp; done) | (simp; omega), HQ.out⟩
  · go_enter Try.func38, Try.ntmps38
    go_wp2
    go_ret
    exact ⟨by first | (simp; done) | (simp; omega), HQ.out⟩
theorem Mb.new2 (w : World) (o : Obj) (m : Mem) : Mb ((w.alloc o).alloc (.cells #[.int .u16 m.n, .int .u8 m.s, .int .i64 m.i] 43)) (w.heap.size + 1) m := by
  have h := Mb.new (w.alloc o) m
  rwa [World.size_alloc] at h
set_option maxRecDepth 20000 in
set_option maxHeartbeats 1000000 in
theorem bdenied_any (m : Mem) (w : World) (hr : m.i ≤ 1073741824) (hr0 : 0 ≤ m.i) : Calls Try.prog 40 #[.agg #[.int .u16 m.n, .int .u8 m.s, .int .i64 m.i]] w fun e w' => e = .returned (.agg #[.int .u16 (denyM m).n, .int .u8 (denyM m).s, .int .i64 (denyM m).i]) ∧ Below w.heap.size w w' := by
  obtain ⟨d, hd⟩ : ∃ d, denyM m = d := ⟨_, rfl⟩
  rw [hd]
  obtain ⟨n, s, i⟩ := m
  unfold denyM at hd
  dsimp only at hd hr hr0
  have HB := fun (o : Mem) => ((Below.refl w.heap.size w).alloc (Nat.le_refl _) (.cells #[.int .u16 n, .int .u8 s, .int .i64 i] 43)).alloc (by simp) (.cells #[.int .u16 o.n, .int .u8 o.s, .int .i64 o.i] 43)
  replace HB := Lib.hid HB
  by_cases h0 : s = 0
  · rw [if_pos (.inl h0)] at hd
    subst h0 hd
    dsimp only
    go_enter Try.func40, Try.ntmps40
    go_wp2
    exact bodyPost_ret (results_mb1 rfl _ _ _ rfl (Mb.new2 w _ ⟨n, 0, i⟩)) rfl ⟨rfl, HB.out ⟨n, 0, i⟩⟩
  · have h1 : (s == 0) = false := by simpa using h0
    by_cases h2 : i = 1073741824
    · rw [if_pos (.inr h2)] at hd
      subst h2 hd
      dsimp only
      go_enter Try.func40, Try.ntmps40
      go_wp2
      exact bodyPost_ret (results_mb1 rfl _ _ _ rfl (Mb.new2 w _ ⟨n, s, 1073741824⟩)) rfl ⟨rfl, HB.out ⟨n, s, 1073741824⟩⟩
    · have h3 : (i == 1073741824) = false := by simpa using h2
      have h4 : wrap64 (i + 1) = i + 1 := by unfold wrap64; omega
      rw [if_neg (by simp [h0, h2])] at hd
      subst hd
      dsimp only
      go_enter Try.func40, Try.ntmps40
      go_wp2
      exact bodyPost_ret (results_mb1 rfl _ _ _ rfl (Mb.new2 w _ ⟨n, 0, i + 1⟩)) rfl ⟨rfl, HB.out ⟨n, 0, i + 1⟩⟩

end Go.Proofs.Ytnoconampcemoaa
