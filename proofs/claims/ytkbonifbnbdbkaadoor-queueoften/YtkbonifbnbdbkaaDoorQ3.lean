/-
  What the closures of package queue ask of an item; two items compared.
-/
import Derived.Test.YtkbonifbnbdbkaaDoorQ2
namespace Go.Proofs.YtkbonifbnbdbkaaDoor
open Go.RowKit

/-- The first of two numbers that is not 0. -/
def orI (x y : Int) : Int := if x = 0 then y else x
set_option maxHeartbeats 1000000 in
theorem cmpOr_any (g : Nat) (x y : Int) (w : World) (h0 : w.cell? ⟨g, 0, none⟩ = some (.int .i64 x)) (h1 : w.cell? ⟨g, 1, none⟩ = some (.int .i64 y)) : Calls Tryd.prog 39 #[.slice (some ⟨g, 0, none⟩) 2 2] w fun e w' => e = .returned (.int .i64 (orI x y)) ∧ w' = w := by
  by_cases hx : x = 0
  · by_cases hy : y = 0
    · have HE : Hid (orI x y = 0) := Lib.hid (by unfold orI; rw [if_pos hx, hy])
      subst hx hy
      go_enter Tryd.func39, Tryd.ntmps39
      go_wp2
      go_loop [8] (fun i => ∃ k : Nat, k ≤ 2 ∧ i = .int .i64 k) (fun i => 2 - (intOf i).toNat)
      case atStart => exact ⟨0, by omega, rfl⟩
      case round =>
        obtain ⟨k, hk, rfl⟩ := hrel
        match k, hk with
        | 0, _ =>
          go_wp2
          go_round
          case rel => exact ⟨1, by omega, by go_num⟩
          case measure => simp [intOf]
        | 1, _ =>
          go_wp2
          go_round
          case rel => exact ⟨2, by omega, by go_num⟩
          case measure => simp [intOf]
        | 2, _ =>
          go_wp2
          go_ret
          exact ⟨by rw [HE.out]; rfl, rfl⟩
    · have HE : Hid (orI x y = y) := Lib.hid (by unfold orI; rw [if_pos hx])
      have hyb : (y != 0) = true := by simpa using hy
      subst hx
      go_enter Tryd.func39, Tryd.ntmps39
      go_wp2
      go_loop [8] (fun i => ∃ k : Nat, k ≤ 1 ∧ i = .int .i64 k) (fun i => 2 - (intOf i).toNat)
      case atStart => exact ⟨0, by omega, rfl⟩
      case round =>
        obtain ⟨k, hk, rfl⟩ := hrel
        match k, hk with
        | 0, _ =>
          go_wp2
          go_round
          case rel => exact ⟨1, by omega, by go_num⟩
          case measure => simp [intOf]
        | 1, _ =>
          go_wp2
          go_ret
          exact ⟨by rw [HE.out]; rfl, rfl⟩
  · have HE : Hid (orI x y = x) := Lib.hid (by unfold orI; rw [if_neg hx])
    have hxb : (x != 0) = true := by simpa using hx
    go_enter Tryd.func39, Tryd.ntmps39
    go_wp2
    go_loop [8] (fun i => i = .int .i64 0) (fun i => 2 - (intOf i).toNat)
    case atStart => rfl
    case round =>
      obtain rfl := hrel
      go_wp2
      go_ret
      exact ⟨by rw [HE.out]; rfl, rfl⟩
/-- Whether two entries have one key. -/
def sameK (x y : Ent) : Bool := x.k.toList == y.k.toList
/-- Whether an item is in an entry's way: it has its key, and the entry is not above its own. -/
def newsP (e : Ent) (x : Itm) : Bool := sameK x.e e && !aboveE e x.e
theorem grow_drewQ (w : World) (a : Array Obj) : (Sort.grow w a).drew = Sort.grow w.drew a := rfl

set_option maxHeartbeats 1000000 in
theorem qPush1_any (x : Itm) (B : Nat) (e : Ent) (w : World) (hB : EBlk w B e) :
    Calls Tryd.prog 21 #[.agg #[.string x.e.k, .int .i64 x.e.t, .int .u16 x.e.o, .string x.e.v, .int .i64 x.e.u, .int .i64 x.s, .int .i64 x.q], .pointer (some ⟨B, 0, none⟩)] w fun r w' => r = .returned (.bool (!sameK x.e e)) ∧ Below w.heap.size w w' := by
  have d1 := (Below.refl w.heap.size w).alloc (Nat.le_refl _) (.cells #[.string x.e.k, .int .i64 x.e.t, .int .u16 x.e.o, .string x.e.v, .int .i64 x.e.u, .int .i64 x.s, .int .i64 x.q] 47)
  have b1 := IBlk.new w x
  have c1 := (hB.on d1).c0
  obtain ⟨x0, -⟩ := b1.cs
  have HD := Lib.hid d1
  unfold sameK
  clear b1 d1 hB
  go_enter Tryd.func21, Tryd.ntmps21
  go_wp2
  go_ret
  exact ⟨by congr 2, HD.out⟩
set_option maxHeartbeats 1000000 in
theorem qTake1_any (x : Itm) (B : Nat) (lim : Int) (w : World) (hB : w.cell? ⟨B, 0, none⟩ = some (.int .i64 lim)) :
    Calls Tryd.prog 24 #[.agg #[.string x.e.k, .int .i64 x.e.t, .int .u16 x.e.o, .string x.e.v, .int .i64 x.e.u, .int .i64 x.s, .int .i64 x.q], .pointer (some ⟨B, 0, none⟩)] w fun r w' => r = .returned (.bool (decide (x.s < lim))) ∧ Below w.heap.size w w' := by
  have hlt := World.block_lt_of_cell? w _ hB
  have d1 := (Below.refl w.heap.size w).alloc (Nat.le_refl _) (.cells #[.string x.e.k, .int .i64 x.e.t, .int .u16 x.e.o, .string x.e.v, .int .i64 x.e.u, .int .i64 x.s, .int .i64 x.q] 47)
  have b1 := IBlk.new w x
  have c1 := (d1.cell (p := ⟨B, 0, none⟩) hlt).trans hB
  obtain ⟨-, -, -, -, -, x5, -⟩ := b1.cs
  have HD := Lib.hid d1
  clear b1 d1 hB hlt
  go_enter Tryd.func24, Tryd.ntmps24
  go_wp2
  go_ret
  exact ⟨rfl, HD.out⟩
set_option maxRecDepth 100000 in
set_option maxHeartbeats 2000000 in
theorem qNews1_any (x : Itm) (B : Nat) (e : Ent) (w : World) (hB : EBlk w B e) :
    Calls Tryd.prog 36 #[.agg #[.string x.e.k, .int .i64 x.e.t, .int .u16 x.e.o, .string x.e.v, .int .i64 x.e.u, .int .i64 x.s, .int .i64 x.q], .pointer (some ⟨B, 0, none⟩)] w fun r w' => r = .returned (.bool (newsP e x)) ∧ Below w.heap.size w w' := by
  have d1 := (Below.refl w.heap.size w).alloc (Nat.le_refl _) (.cells #[.string x.e.k, .int .i64 x.e.t, .int .u16 x.e.o, .string x.e.v, .int .i64 x.e.u, .int .i64 x.s, .int .i64 x.q] 47)
  have b1 := IBlk.new w x
  have e1 := hB.on d1
  obtain ⟨x0, x1, x2, x3, x4, -, -⟩ := b1.cs
  have c0 := e1.c0; have c1 := e1.c1; have c2 := e1.c2; have c3 := e1.c3; have c4 := e1.c4
  have HA := Lib.hid (eAbove_any e x.e (w.alloc (.cells #[.string x.e.k, .int .i64 x.e.t, .int .u16 x.e.o, .string x.e.v, .int .i64 x.e.u, .int .i64 x.s, .int .i64 x.q] 47)))
  have HD := Lib.hid d1
  unfold newsP sameK
  obtain ⟨⟨kx, tx, ox, vx, ux⟩, sx, qx⟩ := x
  obtain ⟨ke, te, oe, ve, ue⟩ := e
  dsimp only at *
  clear b1 e1 d1 hB
  generalize aboveE ⟨ke, te, oe, ve, ue⟩ ⟨kx, tx, ox, vx, ux⟩ = ab at *
  by_cases hk : (kx.toList == ke.toList) = true
  · rw [hk]
    go_enter Tryd.func36, Tryd.ntmps36
    go_wp2_with (go_at_call 18; refine HA.out.mono ?_; rintro r w2 ⟨rfl, q2⟩; refine Hid.out ?_)
    refine Lib.hid ?_
    have HQ := Lib.hid (HD.out.trans (q2.mono HD.out.size))
    clear q2 HD HA x0 x1 x2 x3 x4 c0 c1 c2 c3 c4
    go_wp2
    go_ret
    exact ⟨by simp, HQ.out⟩
  · have hk' : (kx.toList == ke.toList) = false := by simpa using hk
    rw [hk']
    go_enter Tryd.func36, Tryd.ntmps36
    go_wp2_with fail
    go_ret
    exact ⟨by simp, HD.out⟩

/-- Two items compared: by how often they were sent, of one Sent by falling Seq. -/
def cmpQ (x y : Itm) : Int := orI (cmpIE x.s y.s) (cmpIE y.q x.q)
set_option maxHeartbeats 4000000 in
set_option maxRecDepth 100000 in
theorem cmpQ_any (x y : Itm) (W : World) : Calls Tryd.prog 38 #[.agg (encI x).toArray, .agg (encI y).toArray] W fun e w' => e = .returned (.int .i64 (cmpQ x y)) ∧ ∃ q os', w' = Sort.grow (W.drewN q) os' := by
  unfold cmpQ encI
  have HI := Lib.hid (fun w => cmpIntE_any x.s y.s w)
  have HJ := Lib.hid (fun w => cmpIntE_any y.q x.q w)
  have b1 := IBlk.new W x
  have d2 := (Below.refl _ (W.alloc (.cells #[.string x.e.k, .int .i64 x.e.t, .int .u16 x.e.o, .string x.e.v, .int .i64 x.e.u, .int .i64 x.s, .int .i64 x.q] 47))).alloc (Nat.le_refl _) (.cells #[.string y.e.k, .int .i64 y.e.t, .int .u16 y.e.o, .string y.e.v, .int .i64 y.e.u, .int .i64 y.s, .int .i64 y.q] 47)
  have b2 := b1.on d2
  have c2 := IBlk.new (W.alloc (.cells #[.string x.e.k, .int .i64 x.e.t, .int .u16 x.e.o, .string x.e.v, .int .i64 x.e.u, .int .i64 x.s, .int .i64 x.q] 47)) y
  have sz : (W.alloc (.cells #[.string x.e.k, .int .i64 x.e.t, .int .u16 x.e.o, .string x.e.v, .int .i64 x.e.u, .int .i64 x.s, .int .i64 x.q] 47)).heap.size = W.heap.size + 1 := by simp
  rw [sz] at c2
  have HZ := Lib.hid (And.intro b2 c2)
  clear b1 d2 b2 c2 sz
  obtain ⟨⟨kx, tx, ox, vx, ux⟩, sx, qx⟩ := x
  obtain ⟨⟨ky, ty, oy, vy, uy⟩, sy, qy⟩ := y
  dsimp only at *
  generalize cmpIE sx sy = r1 at *
  generalize cmpIE qy qx = r2 at *
  have HR := Lib.hid (fun g w h0 h1 => cmpOr_any g r1 r2 w h0 h1)
  go_enter Tryd.func38, Tryd.ntmps38
  go_wp2_with fail
  obtain ⟨b2, c2⟩ := HZ.out
  generalize hw2 : ((W.alloc (.cells #[.string kx, .int .i64 tx, .int .u16 ox, .string vx, .int .i64 ux, .int .i64 sx, .int .i64 qx] 47)).alloc (.cells #[.string ky, .int .i64 ty, .int .u16 oy, .string vy, .int .i64 uy, .int .i64 sy, .int .i64 qy] 47)) = w2 at *
  have HW := Lib.hid hw2
  clear hw2
  refine wp_region_any (by kernel_rfl) ?_
  change wpAny _ _ _ _ _ _ _ (World.drew _)
  have hS : (fun w' : World => IBlk w' W.heap.size ⟨⟨kx, tx, ox, vx, ux⟩, sx, qx⟩ ∧ IBlk w' (W.heap.size + 1) ⟨⟨ky, ty, oy, vy, uy⟩, sy, qy⟩) w2.drew := ⟨b2, c2⟩
  refine wpAny_of_held (S := fun w' => IBlk w' W.heap.size ⟨⟨kx, tx, ox, vx, ux⟩, sx, qx⟩ ∧ IBlk w' (W.heap.size + 1) ⟨⟨ky, ty, oy, vy, uy⟩, sy, qy⟩) _ _ _ _ ?_
  refine wpAnyH_takeE (i := 0) (some 5) (v := ?_) rfl rfl (by as_aux_lemma => kernel_rfl) (by as_aux_lemma => kernel_rfl) (by as_aux_lemma => kernel_rfl) (fun _ _ _ h => h) (Or.inl ⟨by kernel_rfl, ?_⟩) hS ?_
  rotate_left
  · intro w hSw; obtain ⟨-, -, -, -, -, c0, c1⟩ := hSw.1.cs; obtain ⟨-, -, -, -, -, c3, c4⟩ := hSw.2.cs; dsimp only at c0 c1 c3 c4; go_simp
    first | done | with_reducible rfl
  refine wpAnyH_takeE (i := 1) (some 6) (v := ?_) rfl rfl (by as_aux_lemma => kernel_rfl) (by as_aux_lemma => kernel_rfl) (by as_aux_lemma => kernel_rfl) (fun _ _ _ h => h) (Or.inl ⟨by kernel_rfl, ?_⟩) hS ?_
  rotate_left
  · intro w hSw; obtain ⟨-, -, -, -, -, c0, c1⟩ := hSw.1.cs; obtain ⟨-, -, -, -, -, c3, c4⟩ := hSw.2.cs; dsimp only at c0 c1 c3 c4; go_simp
    first | done | with_reducible rfl
  refine wpAnyH_takeE (i := 2) (some 7) (v := ?_) rfl rfl (by as_aux_lemma => kernel_rfl) (by as_aux_lemma => kernel_rfl) (by as_aux_lemma => kernel_rfl) (fun _ _ _ h => h) (Or.inl ⟨by kernel_rfl, ?_⟩) hS ?_
  rotate_left
  · intro w hSw; obtain ⟨-, -, -, -, -, c0, c1⟩ := hSw.1.cs; obtain ⟨-, -, -, -, -, c3, c4⟩ := hSw.2.cs; dsimp only at c0 c1 c3 c4; go_simp
    first | done | with_reducible rfl
  refine wpAnyH_takeE (i := 3) (some 8) (v := ?_) rfl rfl (by as_aux_lemma => kernel_rfl) (by as_aux_lemma => kernel_rfl) (by as_aux_lemma => kernel_rfl) (fun _ _ _ h => h) (Or.inl ⟨by kernel_rfl, ?_⟩) hS ?_
  rotate_left
  · intro w hSw; obtain ⟨-, -, -, -, -, c0, c1⟩ := hSw.1.cs; obtain ⟨-, -, -, -, -, c3, c4⟩ := hSw.2.cs; dsimp only at c0 c1 c3 c4; go_simp
    first | done | with_reducible rfl
  refine wpAnyH_takeE (i := 5) (some 10) (v := ?_) rfl rfl (by as_aux_lemma => kernel_rfl) (by as_aux_lemma => kernel_rfl) (by as_aux_lemma => kernel_rfl) (fun _ _ _ h => h) (Or.inl ⟨by kernel_rfl, ?_⟩) hS ?_
  rotate_left
  · intro w hSw; obtain ⟨-, -, -, -, -, c0, c1⟩ := hSw.1.cs; obtain ⟨-, -, -, -, -, c3, c4⟩ := hSw.2.cs; dsimp only at c0 c1 c3 c4; go_simp
    first | done | with_reducible rfl
  refine wpAnyH_takeE (i := 6) (some 11) (v := ?_) rfl rfl (by as_aux_lemma => kernel_rfl) (by as_aux_lemma => kernel_rfl) (by as_aux_lemma => kernel_rfl) (fun _ _ _ h => h) (Or.inl ⟨by kernel_rfl, ?_⟩) hS ?_
  rotate_left
  · intro w hSw; obtain ⟨-, -, -, -, -, c0, c1⟩ := hSw.1.cs; obtain ⟨-, -, -, -, -, c3, c4⟩ := hSw.2.cs; dsimp only at c0 c1 c3 c4; go_simp
    first | done | with_reducible rfl
  refine wpAnyH_takeE (i := 7) (some 12) (v := ?_) rfl rfl (by as_aux_lemma => kernel_rfl) (by as_aux_lemma => kernel_rfl) (by as_aux_lemma => kernel_rfl) (fun _ _ _ h => h) (Or.inl ⟨by kernel_rfl, ?_⟩) hS ?_
  rotate_left
  · intro w hSw; obtain ⟨-, -, -, -, -, c0, c1⟩ := hSw.1.cs; obtain ⟨-, -, -, -, -, c3, c4⟩ := hSw.2.cs; dsimp only at c0 c1 c3 c4; go_simp
    first | done | with_reducible rfl
  refine wpAnyH_takeE (i := 8) (some 13) (v := ?_) rfl rfl (by as_aux_lemma => kernel_rfl) (by as_aux_lemma => kernel_rfl) (by as_aux_lemma => kernel_rfl) (fun _ _ _ h => h) (Or.inl ⟨by kernel_rfl, ?_⟩) hS ?_
  rotate_left
  · intro w hSw; obtain ⟨-, -, -, -, -, c0, c1⟩ := hSw.1.cs; obtain ⟨-, -, -, -, -, c3, c4⟩ := hSw.2.cs; dsimp only at c0 c1 c3 c4; go_simp
    first | done | with_reducible rfl
  refine wpAnyH_ready (rs := [4]) (by as_aux_lemma => kernel_rfl) (by simp) ?_
  refine AllReadyH.cons rfl (fun K hK => ?_) AllReadyH.nil
  go_simp
  go_wp2_with (go_at_call 32; refine (HI.out _).mono ?_; rintro e w3 ⟨rfl, rfl⟩)
  refine hK.out _ _ ?_ (fun hS => ?_)
  · exact hS
  clear hK K
  refine wpAnyH_ready (rs := [9]) (by as_aux_lemma => kernel_rfl) (by simp) ?_
  refine AllReadyH.cons rfl (fun K hK => ?_) AllReadyH.nil
  go_simp
  go_wp2_with (go_at_call 32; refine (HJ.out _).mono ?_; rintro e w3 ⟨rfl, rfl⟩)
  refine hK.out _ _ ?_ (fun hS => ?_)
  · exact hS
  clear hK K
  refine wpAnyH_ready (rs := [10]) (by as_aux_lemma => kernel_rfl) (by simp) ?_
  refine AllReadyH.cons rfl (fun K hK => ?_) AllReadyH.nil
  go_simp
  go_wp2_with (fail)
  refine hK.out _ _ ?_ (fun hS => ?_)
  · exact ⟨hS.1.below ((Below.refl w2.heap.size w2.drew).alloc (Nat.le_refl _) _) hS.1.lt, hS.2.below ((Below.refl w2.heap.size w2.drew).alloc (Nat.le_refl _) _) hS.2.lt⟩
  clear hK K
  have n0 := newE w2.drew (.cells #[.int .i64 r1, .int .i64 r2] 3)
  have HO := Lib.hid (HR.out w2.drew.heap.size _ (cellE n0) (cellE n0))
  clear n0
  refine wpAnyH_ready (rs := [11]) (by as_aux_lemma => kernel_rfl) (by simp) ?_
  refine AllReadyH.cons rfl (fun K hK => ?_) AllReadyH.nil
  go_simp
  go_wp2_with (go_at_call 39; refine HO.out.mono ?_; rintro e w3 ⟨rfl, rfl⟩)
  refine hK.out _ _ ?_ (fun hS => ?_)
  · exact hS
  clear hK K
  refine wpAnyH_takeE (i := 12) (some 4) (v := ?_) rfl rfl (by as_aux_lemma => kernel_rfl) (by as_aux_lemma => kernel_rfl) (by as_aux_lemma => kernel_rfl) (fun _ _ _ h => h) (Or.inl ⟨by kernel_rfl, ?_⟩) hS ?_
  rotate_left
  · intro w hSw; skip; go_simp
    first | done | with_reducible rfl
  refine wpAnyH_done (by kernel_rfl) ?_ _
  go_wp2
  go_ret
  refine ⟨rfl, 1, #[.cells #[.string kx, .int .i64 tx, .int .u16 ox, .string vx, .int .i64 ux, .int .i64 sx, .int .i64 qx] 47, .cells #[.string ky, .int .i64 ty, .int .u16 oy, .string vy, .int .i64 uy, .int .i64 sy, .int .i64 qy] 47, .cells #[.int .i64 r1, .int .i64 r2] 3], ?_⟩
  rw [← HW.out]
  simp only [Sort.alloc_eq_grow, Sort.grow_grow, grow_drewQ]
  rfl

end Go.Proofs.YtkbonifbnbdbkaaDoor
