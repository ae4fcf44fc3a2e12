/-
  What Same, Check and Size of package packet tell; Light of the reference.
-/
import Derived.Test.YtchhdffehkcecaaDoorP8
import Derived.Test.YtchhdffehkcecaaDoorKShelf
import Derived.Shelf.SlicesQ.Equal
namespace Go.Proofs.YtchhdffehkcecaaDoor
open Go Go.RowKit Go.Shelf

def eqMm (x y : Mem) : Bool := x.n == y.n && (x.s == y.s && x.i == y.i)
theorem eqMm_iff (x y : Mem) : eqMm x y = true ↔ x = y := by
  obtain ⟨a, b, c⟩ := x
  obtain ⟨d, e, f⟩ := y
  simp [eqMm]
set_option maxRecDepth 20000 in
theorem run_neM (x y : Mem) (w : World) : (binOp .neq 45 (.agg #[.int .u16 x.n, .int .u8 x.s, .int .i64 x.i]) (.agg #[.int .u16 y.n, .int .u8 y.s, .int .i64 y.i])).run Tryd.prog w = .ok (.bool (!eqMm x y)) w := by
  unfold eqMm
  cases h1 : x.n == y.n <;> cases h2 : x.s == y.s <;> go_simp <;> (by_cases hu : x.i = y.i <;> simp [hu])

theorem neqMp : NeqAt Tryd.prog 45 (fun x => .agg (encM x).toArray) eqMm := ⟨fun x y w => run_neM x y w, GuardAt.agg _ (by kernel_rfl)⟩
theorem allEqM_iff : ∀ (xs ys : List Mem), Lib.allEq eqMm xs ys = true ↔ xs = ys
  | [], [] => by simp [Lib.allEq]
  | [], _ :: _ => by simp [Lib.allEq]
  | _ :: _, [] => by simp [Lib.allEq]
  | x :: xs, y :: ys => by
    rw [Lib.allEq, Bool.and_eq_true, allEqM_iff xs ys, eqMm_iff, List.cons.injEq]
/-- Whether two lists are one. -/
def sameMs (xs ys : List Mem) : Bool := Lib.allEq eqMm xs ys
theorem sameMs_iff (xs ys : List Mem) : sameMs xs ys = true ↔ xs = ys := allEqM_iff xs ys
theorem sameMs_len {xs ys : List Mem} (h : xs.length ≠ ys.length) : sameMs xs ys = false := by
  rw [Bool.eq_false_iff]
  exact fun e => h (by rw [(allEqM_iff xs ys).1 e])
set_option maxHeartbeats 1000000 in
theorem EqM_lens (a b : Option Addr) (n c m d : Nat) (w : World) (hn : n ≠ m) : Calls Tryd.prog 41 #[.slice a n c, .slice b m d] w fun e w' => e = .returned (.bool false) ∧ w' = w := by
  have h1 : ((n : Int) != (m : Int)) = true := by simp; omega
  have h2 : ¬ n = m := hn
  go_enter Tryd.func41, Tryd.ntmps41
  go_wp2
  go_ret
  exact ⟨rfl, rfl⟩
set_option maxHeartbeats 1000000 in
theorem EqM_none (a b : Option Addr) (c d : Nat) (w : World) : Calls Tryd.prog 41 #[.slice a 0 c, .slice b 0 d] w fun e w' => e = .returned (.bool true) ∧ w' = w := by
  go_enter Tryd.func41, Tryd.ntmps41
  go_wp2
  refine wp_loop_rounds 1 ?_
  rw [rounds_succ]
  go_wp2
  go_ret
  exact ⟨rfl, rfl⟩
theorem flatM {w : World} {b o : Nat} {xs : List Mem} (h : ∀ i (hi : i < xs.length), ∀ j v, (encM xs[i])[j]? = some v → w.cell? ⟨b, o + i * 3 + j, none⟩ = some v) [Inhabited Mem] :
    ∀ j, j < xs.length → ∀ i v, (encM xs[j]!)[i]? = some v → w.cell? ⟨b, o + j * 3 + i, none⟩ = some v := fun j hj i v hv => by
  rw [getElem!_pos xs j hj] at hv
  exact h j hj i v hv
theorem below_drewM {B : Nat} {w w' : World} (h : Below B w w') (q : Nat) : Below B w (w'.drewN q) := ⟨h.os, h.tape, h.output, h.size, h.block⟩
theorem EqM_any (a b : Option Addr) (c d : Nat) (xs ys : List Mem) (w : World) (ha : MemsAt w a xs) (hb : MemsAt w b ys) (hn : xs.length ≤ 9223372036854775807) (n m : Nat) (hnx : n = xs.length) (hmy : m = ys.length) :
    Calls Tryd.prog 41 #[.slice a n c, .slice b m d] w fun e w' => e = .returned (.bool (sameMs xs ys)) ∧ Below w.heap.size w w' := by
  subst hnx hmy
  haveI : Inhabited Mem := ⟨zeroM⟩
  by_cases hl : xs.length = ys.length
  · by_cases hz : 0 < xs.length
    · obtain ⟨b1, o1, rfl, -, h1⟩ := ha hz
      obtain ⟨b2, o2, rfl, -, h2⟩ := hb (by omega)
      have hc := AnyQ.slices_Equal Tryd.lEqualM 3 Tryd.isAgg45 Tryd.sizeOf45 encM (fun _ => rfl) eqMm neqMp b1 o1 xs.length c b2 o2 ys.length d xs ys w (Nat.le_refl _) (Nat.le_refl _) hn (by omega) (flatM h1) (flatM h2)
      rw [List.take_length, List.take_length] at hc
      exact hc.mono fun e w' ⟨he, q, hq⟩ => ⟨he, by rw [hq]; exact below_drewM (Below.refl _ _) q⟩
    · obtain rfl := List.eq_nil_of_length_eq_zero (show xs.length = 0 by omega)
      obtain rfl := List.eq_nil_of_length_eq_zero (show ys.length = 0 by simpa using hl.symm)
      exact (EqM_none a b c d w).mono fun e w' ⟨he, hw⟩ => ⟨he, by rw [hw]; exact Below.refl _ _⟩
  · rw [sameMs_len hl]
    exact (EqM_lens a b _ c _ d w hl).mono fun e w' ⟨he, hw⟩ => ⟨he, by rw [hw]; exact Below.refl _ _⟩

theorem neqEp : NeqAt Tryd.prog 48 (fun x => .agg (encE x).toArray) eqEn := ⟨fun x y w => run_neE x y w, GuardAt.agg _ (by kernel_rfl)⟩
theorem allEqE_iff : ∀ (xs ys : List Ent), Lib.allEq eqEn xs ys = true ↔ xs = ys
  | [], [] => by simp [Lib.allEq]
  | [], _ :: _ => by simp [Lib.allEq]
  | _ :: _, [] => by simp [Lib.allEq]
  | x :: xs, y :: ys => by
    rw [Lib.allEq, Bool.and_eq_true, allEqE_iff xs ys, eqEn_iff, List.cons.injEq]
/-- Whether two lists are one. -/
def sameEs (xs ys : List Ent) : Bool := Lib.allEq eqEn xs ys
theorem sameEs_iff (xs ys : List Ent) : sameEs xs ys = true ↔ xs = ys := allEqE_iff xs ys
theorem sameEs_len {xs ys : List Ent} (h : xs.length ≠ ys.length) : sameEs xs ys = false := by
  rw [Bool.eq_false_iff]
  exact fun e => h (by rw [(allEqE_iff xs ys).1 e])
set_option maxHeartbeats 1000000 in
theorem EqE_lens (a b : Option Addr) (n c m d : Nat) (w : World) (hn : n ≠ m) : Calls Tryd.prog 42 #[.slice a n c, .slice b m d] w fun e w' => e = .returned (.bool false) ∧ w' = w := by
  have h1 : ((n : Int) != (m : Int)) = true := by simp; omega
  have h2 : ¬ n = m := hn
  go_enter Tryd.func42, Tryd.ntmps42
  go_wp2
  go_ret
  exact ⟨rfl, rfl⟩
set_option maxHeartbeats 1000000 in
theorem EqE_none (a b : Option Addr) (c d : Nat) (w : World) : Calls Tryd.prog 42 #[.slice a 0 c, .slice b 0 d] w fun e w' => e = .returned (.bool true) ∧ w' = w := by
  go_enter Tryd.func42, Tryd.ntmps42
  go_wp2
  refine wp_loop_rounds 1 ?_
  rw [rounds_succ]
  go_wp2
  go_ret
  exact ⟨rfl, rfl⟩
theorem flatE {w : World} {b o : Nat} {xs : List Ent} (h : ∀ i (hi : i < xs.length), ∀ j v, (encE xs[i])[j]? = some v → w.cell? ⟨b, o + i * 5 + j, none⟩ = some v) [Inhabited Ent] :
    ∀ j, j < xs.length → ∀ i v, (encE xs[j]!)[i]? = some v → w.cell? ⟨b, o + j * 5 + i, none⟩ = some v := fun j hj i v hv => by
  rw [getElem!_pos xs j hj] at hv
  exact h j hj i v hv
theorem below_drewE {B : Nat} {w w' : World} (h : Below B w w') (q : Nat) : Below B w (w'.drewN q) := ⟨h.os, h.tape, h.output, h.size, h.block⟩
theorem EqE_any (a b : Option Addr) (c d : Nat) (xs ys : List Ent) (w : World) (ha : EntsAt w a xs) (hb : EntsAt w b ys) (hn : xs.length ≤ 9223372036854775807) (n m : Nat) (hnx : n = xs.length) (hmy : m = ys.length) :
    Calls Tryd.prog 42 #[.slice a n c, .slice b m d] w fun e w' => e = .returned (.bool (sameEs xs ys)) ∧ Below w.heap.size w w' := by
  subst hnx hmy
  haveI : Inhabited Ent := ⟨zeroE⟩
  by_cases hl : xs.length = ys.length
  · by_cases hz : 0 < xs.length
    · obtain ⟨b1, o1, rfl, -, h1⟩ := ha hz
      obtain ⟨b2, o2, rfl, -, h2⟩ := hb (by omega)
      have hc := AnyQ.slices_Equal Tryd.lEqualE 5 Tryd.isAgg48 Tryd.sizeOf48 encE (fun _ => rfl) eqEn neqEp b1 o1 xs.length c b2 o2 ys.length d xs ys w (Nat.le_refl _) (Nat.le_refl _) hn (by omega) (flatE h1) (flatE h2)
      rw [List.take_length, List.take_length] at hc
      exact hc.mono fun e w' ⟨he, q, hq⟩ => ⟨he, by rw [hq]; exact below_drewE (Below.refl _ _) q⟩
    · obtain rfl := List.eq_nil_of_length_eq_zero (show xs.length = 0 by omega)
      obtain rfl := List.eq_nil_of_length_eq_zero (show ys.length = 0 by simpa using hl.symm)
      exact (EqE_none a b c d w).mono fun e w' ⟨he, hw⟩ => ⟨he, by rw [hw]; exact Below.refl _ _⟩
  · rw [sameEs_len hl]
    exact (EqE_lens a b _ c _ d w hl).mono fun e w' ⟨he, hw⟩ => ⟨he, by rw [hw]; exact Below.refl _ _⟩

/-- Whether two packets are one. -/
def sameP (p q : Pk) : Bool := p.k == q.k && (p.f == q.f && (p.a == q.a && (p.q == q.q && (sameMs p.ms q.ms && sameEs p.es q.es))))
theorem sameP_refl (p : Pk) : sameP p p = true := by
  unfold sameP
  rw [(sameMs_iff _ _).2 rfl, (sameEs_iff _ _).2 rfl]
  simp
set_option maxRecDepth 100000 in
set_option maxHeartbeats 4000000 in
theorem pSame_any (p q : Pk) (am : Option Addr) (na ca : Nat) (ae : Option Addr) (xa ya : Nat) (bm : Option Addr) (nb cb : Nat) (be : Option Addr) (xb yb : Nat) (W : World) (h1 : na = p.ms.length) (h2 : xa = p.es.length) (h3 : nb = q.ms.length) (h4 : xb = q.es.length) (hM : MemsAt W am p.ms) (hE : EntsAt W ae p.es) (hM' : MemsAt W bm q.ms) (hE' : EntsAt W be q.es) (hl1 : p.ms.length ≤ 9223372036854775807) (hl2 : p.es.length ≤ 9223372036854775807) :
    Calls Tryd.prog 19 #[.agg #[.int .u8 p.k, .int .u16 p.f, .int .u16 p.a, .int .i64 p.q, .slice am na ca, .slice ae xa ya], .agg #[.int .u8 q.k, .int .u16 q.f, .int .u16 q.a, .int .i64 q.q, .slice bm nb cb, .slice be xb yb]] W fun e w' => e = .returned (.bool (sameP p q)) ∧ Below W.heap.size W w' := by
  have HM : Hid (∀ u, Below W.heap.size W u → Calls Tryd.prog 41 #[.slice am na ca, .slice bm nb cb] u fun e w' => e = .returned (.bool (sameMs p.ms q.ms)) ∧ Below u.heap.size u w') := Lib.hid (fun u hu => EqM_any am bm ca cb p.ms q.ms u (hM.below hu (Nat.le_refl _)) (hM'.below hu (Nat.le_refl _)) hl1 na nb h1 h3)
  have HE : Hid (∀ u, Below W.heap.size W u → Calls Tryd.prog 42 #[.slice ae xa ya, .slice be xb yb] u fun e w' => e = .returned (.bool (sameEs p.es q.es)) ∧ Below u.heap.size u w') := Lib.hid (fun u hu => EqE_any ae be ya yb p.es q.es u (hE.belowP hu (Nat.le_refl _)) (hE'.belowP hu (Nat.le_refl _)) hl2 xa xb h2 h4)
  have d1 := (Below.refl W.heap.size W).alloc (Nat.le_refl _) (.cells #[.int .u8 p.k, .int .u16 p.f, .int .u16 p.a, .int .i64 p.q, .slice am na ca, .slice ae xa ya] 26)
  have d2 := d1.alloc (by simp) (.cells #[.int .u8 q.k, .int .u16 q.f, .int .u16 q.a, .int .i64 q.q, .slice bm nb cb, .slice be xb yb] 26)
  have b1 := (PkBlk.new W p.k p.f p.a p.q am na ca ae xa ya).on ((Below.refl _ _).alloc (Nat.le_refl _) (.cells #[.int .u8 q.k, .int .u16 q.f, .int .u16 q.a, .int .i64 q.q, .slice bm nb cb, .slice be xb yb] 26))
  have b2 := PkBlk.new (W.alloc (.cells #[.int .u8 p.k, .int .u16 p.f, .int .u16 p.a, .int .i64 p.q, .slice am na ca, .slice ae xa ya] 26)) q.k q.f q.a q.q bm nb cb be xb yb
  rw [World.size_alloc] at b2
  have x0 := b1.c0; have x1 := b1.c1; have x2 := b1.c2; have x3 := b1.c3; have x4 := b1.c4; have x5 := b1.c5
  have y0 := b2.c0; have y1 := b2.c1; have y2 := b2.c2; have y3 := b2.c3; have y4 := b2.c4; have y5 := b2.c5
  have HZ := Lib.hid (And.intro b1 (And.intro b2 d2))
  clear h1 h2 h3 h4 hM hE hM' hE' hl1 hl2 d1 d2 b1 b2
  unfold sameP
  obtain ⟨k, f, a, q1, ms, es⟩ := p
  obtain ⟨k', f', a', q1', ms', es'⟩ := q
  dsimp only at *
  by_cases g0 : k = k'
  case neg =>
    have e0 : (k == k') = false := by simpa using g0
    go_enter Tryd.func19, Tryd.ntmps19
    go_wp2
    go_ret
    exact ⟨by simp [e0], HZ.out.2.2⟩
  subst g0
  by_cases g1 : f = f'
  case neg =>
    have e1 : (f == f') = false := by simpa using g1
    go_enter Tryd.func19, Tryd.ntmps19
    go_wp2
    go_ret
    exact ⟨by simp [e1], HZ.out.2.2⟩
  subst g1
  by_cases g2 : a = a'
  case neg =>
    have e2 : (a == a') = false := by simpa using g2
    go_enter Tryd.func19, Tryd.ntmps19
    go_wp2
    go_ret
    exact ⟨by simp [e2], HZ.out.2.2⟩
  subst g2
  by_cases g3 : q1 = q1'
  case neg =>
    have e3 : (q1 == q1') = false := by simpa using g3
    go_enter Tryd.func19, Tryd.ntmps19
    go_wp2
    go_ret
    exact ⟨by simp [e3], HZ.out.2.2⟩
  subst g3
  cases hs : sameMs ms ms' with
  | false =>
    rw [hs] at HM
    go_enter Tryd.func19, Tryd.ntmps19
    go_wp2_with (go_at_call 41; refine (HM.out _ HZ.out.2.2).mono ?_; rintro e u1 ⟨rfl, r1⟩; refine Hid.out ?_)
    refine Lib.hid ?_
    have HZ1 := Lib.hid (And.intro (HZ.out.1.on r1) (And.intro (HZ.out.2.1.on r1) (HZ.out.2.2.trans (r1.mono HZ.out.2.2.size))))
    clear x0 x1 x2 x3 x4 x5 y0 y1 y2 y3 y4 y5 r1
    go_wp2
    go_ret
    exact ⟨by first | rfl | simp, HZ1.out.2.2⟩
  | true =>
    rw [hs] at HM
    go_enter Tryd.func19, Tryd.ntmps19
    go_wp2_with (go_at_call 41; refine (HM.out _ HZ.out.2.2).mono ?_; rintro e u1 ⟨rfl, r1⟩; refine Hid.out ?_)
    refine Lib.hid ?_
    have HZ1 := Lib.hid (And.intro (HZ.out.1.on r1) (And.intro (HZ.out.2.1.on r1) (HZ.out.2.2.trans (r1.mono HZ.out.2.2.size))))
    clear x0 x1 x2 x3 x4 x5 y0 y1 y2 y3 y4 y5 r1
    have x5 := HZ1.out.1.c5; have y5 := HZ1.out.2.1.c5
    go_wp2_with (go_at_call 42; refine (HE.out _ HZ1.out.2.2).mono ?_; rintro e u2 ⟨rfl, q2⟩; refine Hid.out ?_)
    refine Lib.hid ?_
    have HQ := Lib.hid (HZ1.out.2.2.trans (q2.mono HZ1.out.2.2.size))
    clear q2 x5 y5
    go_wp2
    go_ret
    exact ⟨by first | rfl | simp, HQ.out⟩
set_option maxRecDepth 100000 in
set_option maxHeartbeats 4000000 in
theorem pCheck_any (p : Pk) (hp : p.Ok) (am : Option Addr) (nm cm : Nat) (ae : Option Addr) (ne ce : Nat) (hnm : nm = p.ms.length) (hne : ne = p.es.length) (B : Nat) (W : World) (hB : B ≤ W.heap.size) (hv : TabE B W) (hM : MemsAt W am p.ms) (hE : EntsAt W ae p.es) :
    Calls Tryd.prog 13 #[.agg #[.int .u8 p.k, .int .u16 p.f, .int .u16 p.a, .int .i64 p.q, .slice am nm cm, .slice ae ne ce]] W fun e w' => e = .returned (.int .i64 (checkP p)) ∧ Below W.heap.size W w' := by
  have d1 := (Below.refl W.heap.size W).alloc (Nat.le_refl _) (.cells #[.int .u8 p.k, .int .u16 p.f, .int .u16 p.a, .int .i64 p.q, .slice am nm cm, .slice ae ne ce] 26)
  have b1 := PkBlk.new W p.k p.f p.a p.q am nm cm ae ne ce
  have x0 := b1.c0; have x1 := b1.c1; have x2 := b1.c2; have x3 := b1.c3; have x4 := b1.c4; have x5 := b1.c5
  have HD := Lib.hid d1
  by_cases hc : checkP p = 0
  · have HP := Lib.hid (pPut_ok p hp am nm cm ae ne ce hnm hne B (W.alloc (.cells #[.int .u8 p.k, .int .u16 p.f, .int .u16 p.a, .int .i64 p.q, .slice am nm cm, .slice ae ne ce] 26)) (Nat.le_trans hB d1.size) (hv.on (d1.mono hB)) (hM.on d1) (hE.onP d1) hc)
    rw [hc]
    clear hp hnm hne hB hv hM hE hc b1 d1
    go_enter Tryd.func13, Tryd.ntmps13
    go_wp2_with (go_at_call 11; refine HP.out.mono ?_; rintro e w5 ⟨a5, n5, c5, rfl, ho5, q5⟩; replace ho5 := Lib.hid ho5; replace q5 := Lib.hid q5; refine Hid.out ?_)
    refine Lib.hid ?_
    go_wp2
    go_ret
    exact ⟨rfl, HD.out.trans (q5.out.mono HD.out.size)⟩
  · have HP := Lib.hid (pPut_err p hp am nm cm ae ne ce hnm hne B (W.alloc (.cells #[.int .u8 p.k, .int .u16 p.f, .int .u16 p.a, .int .i64 p.q, .slice am nm cm, .slice ae ne ce] 26)) (Nat.le_trans hB d1.size) (hv.on (d1.mono hB)) (hM.on d1) (hE.onP d1) hc)
    generalize checkP p = E at *
    clear hp hnm hne hB hv hM hE hc b1 d1
    go_enter Tryd.func13, Tryd.ntmps13
    go_wp2_with (go_at_call 11; refine HP.out.mono ?_; rintro e w5 ⟨rfl, q5⟩; replace q5 := Lib.hid q5; refine Hid.out ?_)
    refine Lib.hid ?_
    go_wp2
    go_ret
    exact ⟨rfl, HD.out.trans (q5.out.mono HD.out.size)⟩
set_option maxRecDepth 100000 in
set_option maxHeartbeats 4000000 in
theorem pSize_any (x : Ent) (hx : x.Ok) (hk : x.k.size ≤ 1099511627776) (hvs : x.v.size ≤ 1099511627776) (B : Nat) (W : World) (hB : B ≤ W.heap.size) (hv : TabE B W) :
    Calls Tryd.prog 17 #[.agg #[.string x.k, .int .i64 x.t, .int .u16 x.o, .string x.v, .int .i64 x.u]] W fun e w' => e = .returned (.int .i64 ((putEn x).length : Int)) ∧ Below W.heap.size W w' := by
  have d1 := (Below.refl W.heap.size W).alloc (Nat.le_refl _) (.cells #[.string x.k, .int .i64 x.t, .int .u16 x.o, .string x.v, .int .i64 x.u] 48)
  have b1 := EBlk.new W x
  have x0 := b1.c0; have x1 := b1.c1; have x2 := b1.c2; have x3 := b1.c3; have x4 := b1.c4
  have hl := putEn_len x hx (by omega) (by omega)
  have HP := Lib.hid (ePut_any x hx (by omega) (by omega) (by omega) B (W.alloc (.cells #[.string x.k, .int .i64 x.t, .int .u16 x.o, .string x.v, .int .i64 x.u] 48)) (Nat.le_trans hB d1.size) (hv.on (d1.mono hB)))
  have HD := Lib.hid d1
  clear hx hk hvs hB hv b1 d1 hl
  obtain ⟨N, hN⟩ : ∃ N, (putEn x).length = N := ⟨_, rfl⟩
  rw [hN]
  have HN := Lib.hid hN
  clear hN
  go_enter Tryd.func17, Tryd.ntmps17
  go_wp2_with (go_at_call 37; refine HP.out.mono ?_; rintro e w5 ⟨a5, n5, c5, rfl, ho5, q5⟩; replace ho5 := Lib.hid ho5; replace q5 := Lib.hid q5; refine Hid.out ?_)
  refine Lib.hid ?_
  obtain rfl : n5 = N := (src_lenP ho5.out.src).trans HN.out
  go_wp2
  go_ret
  exact ⟨rfl, HD.out.trans (q5.out.mono HD.out.size)⟩

end Go.Proofs.YtchhdffehkcecaaDoor
