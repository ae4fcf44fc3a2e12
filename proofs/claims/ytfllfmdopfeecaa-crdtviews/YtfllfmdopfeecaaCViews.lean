/-
  The walk of CrdtViews.
-/
import Derived.Test.YtfllfmdopfeecaaC13
import Derived.Test.YtfllfmdopfeecaaC9
namespace Go.Proofs.Ytfllfmdopfeecaa
open Go.RowKit Go.Maps

theorem view_sub (S : List Ent) (now later : Int) (h : now ≤ later) : (viewC S later).Sublist (viewC S now) := by
  unfold viewC
  have e : S.filter (fun r => decide (later < r.u)) = (S.filter fun r => decide (now < r.u)).filter fun r => decide (later < r.u) := by
    rw [List.filter_filter]
    refine List.filter_congr fun x _ => ?_
    by_cases hx : later < x.u
    · have : now < x.u := by omega
      simp [hx, this]
    · simp [hx]
  rw [e]
  exact List.filter_sublist
theorem view_view (S : List Ent) (now later : Int) (h : now ≤ later) : viewC (viewC S now) later = viewC S later := by
  unfold viewC
  rw [List.filter_filter]
  refine List.filter_congr fun x _ => ?_
  by_cases hx : later < x.u
  · have : now < x.u := by omega
    simp [hx, this]
  · simp [hx]
theorem view_all {S : List Ent} {now : Int} : ∀ y ∈ viewC S now, now < y.u := fun y hy => by
  unfold viewC at hy
  simpa using (List.mem_filter.1 hy).2
theorem sub_lt {a b : List Ent} {p k : Nat} (h : (b.drop k).Sublist (a.drop p)) (hk : k < b.length) : p < a.length := by
  have := h.length_le
  rw [List.length_drop, List.length_drop] at this
  omega
theorem sub_next {a b : List Ent} {p k : Nat} (h : (b.drop k).Sublist (a.drop p)) : (b.drop (k + 1)).Sublist (a.drop p) := by
  refine List.Sublist.trans ?_ h
  rw [← List.drop_drop]
  exact List.drop_sublist _ _
theorem sub_on {a b : List Ent} {p k : Nat} (h : (b.drop k).Sublist (a.drop p)) (hk : k < b.length) (hp : p < a.length) (hne : a[p] ≠ b[k]) : (b.drop k).Sublist (a.drop (p + 1)) := by
  rw [List.drop_eq_getElem_cons hk, List.drop_eq_getElem_cons hp] at h
  rw [List.drop_eq_getElem_cons hk]
  rcases List.sublist_cons_iff.1 h with h | ⟨r, e, -⟩
  · exact h
  · exact absurd (List.cons.inj e).1.symm hne
theorem CAt.apart2 {w w' : World} {sb bm bx : Nat} {S T : List Ent} (h : CAt w sb bm S) (hx : CMap w bx T) (hg : w.grownBy w' (some bx)) (h2 : bm ≠ bx) : CAt w' sb bm S :=
  h.apart hg (fun e => by
    obtain ⟨es, clock, hb, -⟩ := hx
    have h1 := h.1
    unfold CmBlk at h1
    rw [e, hb] at h1
    cases h1) h2

set_option maxRecDepth 100000 in
set_option maxHeartbeats 16000000 in
theorem views_walk (aA : Option Addr) (cA : Nat) (lA : List Ent) (now later : Int) (W : World) (heA : EntsAt W aA lA) (nA : Nat) (hA : nA = lA.length) (hzl : lA.length ≤ 140737488351232) :
    Calls Try.prog 6 #[.slice aA nA cA, .int .i64 now, .int .i64 later] W fun e w' => e = .returned (.bool true) ∧ Below W.heap.size W w' := by
  by_cases h1 : 250 < nA
  · have g1 : (250 : Int) < (nA : Int) := by omega
    go_enter Try.func6, Try.ntmps6
    go_wp2_with (go_at_call 8; refine (cawake_any _).mono ?_; rintro e w1 ⟨rfl, q⟩)
    go_ret
    exact ⟨rfl, q⟩
  have g1 : ¬ (250 : Int) < (nA : Int) := by omega
  by_cases g2 : later < now
  · go_enter Try.func6, Try.ntmps6
    go_wp2_with (go_at_call 8; refine (cawake_any _).mono ?_; rintro e w1 ⟨rfl, q⟩)
    go_ret
    exact ⟨rfl, q⟩
  have p1 := view_sub (mergeS [] lA) now later (by omega)
  have p2 := view_view (mergeS [] lA) now later (by omega)
  have p3 := view_all (S := mergeS [] lA) (now := later)
  have HNA := Lib.hid hA
  have HLA : Hid (lA.length ≤ 9223372036854775807) := Lib.hid (by omega)
  clear h1 hA hzl
  obtain ⟨X, eX⟩ : ∃ S, mergeS [] lA = S := ⟨_, rfl⟩
  rw [eX] at p1 p2 p3
  obtain ⟨VA, eA⟩ : ∃ S, viewC X now = S := ⟨_, rfl⟩
  obtain ⟨VB, eB⟩ : ∃ S, viewC X later = S := ⟨_, rfl⟩
  rw [eA, eB] at p1 p2
  rw [eB] at p3
  have HEX := Lib.hid eX; have HEA := Lib.hid eA; have HEB := Lib.hid eB
  have HP1 := Lib.hid p1; have HP2 := Lib.hid p2; have HP3 := Lib.hid p3
  clear eX eA eB p1 p2 p3
  have HS1 : Hid (EntsAt W aA lA ∧ Below W.heap.size W W) := Lib.hid ⟨heA, Below.refl _ _⟩
  clear heA
  go_enter Try.func6, Try.ntmps6
  obtain ⟨x0, q0⟩ := HS1.out
  have HC2 := Lib.hid (cof_any aA cA lA W x0 HLA.out nA HNA.out)
  clear x0 q0
  go_wp2_with (go_at_call 28; refine HC2.out.mono ?_; rintro e w2 ⟨sb2, bm2, rfl, hm, hge, q⟩; refine Hid.out ?_)
  refine Lib.hid ?_
  rw [HEX.out] at hm
  obtain ⟨x0, q0⟩ := HS1.out
  have HGE_0 : Hid (W.heap.size ≤ bm2) := Lib.hid (Nat.le_trans q0.size hge.2)
  clear x0 q0
  obtain ⟨x0, q0⟩ := HS1.out
  have HS3 : Hid (CAt w2 sb2 bm2 X ∧ EntsAt w2 aA lA ∧ Below W.heap.size W w2) := Lib.hid ⟨hm, x0.on q, q0.trans (q.mono q0.size)⟩
  clear x0 q0 HS1
  clear hm hge q HC2
  obtain ⟨m0, x0, q0⟩ := HS3.out
  have HS4 : Hid (CAt w2 sb2 bm2 X ∧ Below W.heap.size W w2) := Lib.hid ⟨m0, q0⟩
  clear m0 x0 q0 HS3
  obtain ⟨m0, q0⟩ := HS4.out
  have HC5 := Lib.hid (cView_any sb2 bm2 X now w2 m0)
  rw [HEA.out] at HC5
  have HL5 : Hid ((VA).length ≤ 256) := Lib.hid (by rw [← HEA.out]; exact Nat.le_trans (List.length_filter_le _ _) m0.2.2.2)
  clear m0 q0
  go_wp2_with (go_at_call 18; refine HC5.out.mono ?_; rintro e w5 ⟨v, rfl, ho, q⟩; refine Hid.out ?_)
  refine Lib.hid ?_
  obtain ⟨aP, cP, rfl, -, -, he⟩ := ho.form
  obtain ⟨nP, hnP⟩ : ∃ n, n = (VA).length := ⟨_, rfl⟩
  rw [← hnP]
  have HNP := Lib.hid hnP
  have HLeP : Hid ((VA).length ≤ 9223372036854775807) := Lib.hid (by have := HL5.out; omega)
  have HMP : Hid (nP ≤ 256) := Lib.hid (by rw [HNP.out]; exact HL5.out)
  clear hnP
  obtain ⟨m0, q0⟩ := HS4.out
  have HS6 : Hid (CAt w5 sb2 bm2 X ∧ EntsAt w5 aP VA ∧ Below W.heap.size W w5) := Lib.hid ⟨m0.on q, he, q0.trans (q.mono q0.size)⟩
  clear m0 q0 HS4
  clear he q ho HC5 HL5
  obtain ⟨m0, x0, q0⟩ := HS6.out
  have HC7 := Lib.hid (cView_any sb2 bm2 X later w5 m0)
  rw [HEB.out] at HC7
  have HL7 : Hid ((VB).length ≤ 256) := Lib.hid (by rw [← HEB.out]; exact Nat.le_trans (List.length_filter_le _ _) m0.2.2.2)
  clear m0 x0 q0
  go_wp2_with (go_at_call 18; refine HC7.out.mono ?_; rintro e w7 ⟨v, rfl, ho, q⟩; refine Hid.out ?_)
  refine Lib.hid ?_
  obtain ⟨aQ, cQ, rfl, -, -, he⟩ := ho.form
  obtain ⟨nQ, hnQ⟩ : ∃ n, n = (VB).length := ⟨_, rfl⟩
  rw [← hnQ]
  have HNQ := Lib.hid hnQ
  have HLeQ : Hid ((VB).length ≤ 9223372036854775807) := Lib.hid (by have := HL7.out; omega)
  have HMQ : Hid (nQ ≤ 256) := Lib.hid (by rw [HNQ.out]; exact HL7.out)
  clear hnQ
  obtain ⟨m0, x0, q0⟩ := HS6.out
  have HS8 : Hid (CAt w7 sb2 bm2 X ∧ EntsAt w7 aP VA ∧ EntsAt w7 aQ VB ∧ Below W.heap.size W w7) := Lib.hid ⟨m0.on q, x0.on q, he, q0.trans (q.mono q0.size)⟩
  clear m0 x0 q0 HS6
  clear he q ho HC7 HL7
  have hnP := HMP.out
  have hnQ := HMQ.out
  go_wp2
  go_loopw [10, 11] (fun n i wr => ∃ (p k : Nat), p ≤ nP ∧ k ≤ nQ ∧ n = .int .i64 p ∧ i = .int .i64 k ∧ Hid ((VB.drop k).Sublist (VA.drop p)) ∧ Hid (Below w7.heap.size w7 wr)) (fun _ i _ => nQ - (intOf i).toNat)
  case atStart => exact ⟨0, 0, Nat.zero_le _, Nat.zero_le _, rfl, rfl, Lib.hid HP1.out, Lib.hid (Below.refl _ _)⟩
  case round =>
    obtain ⟨p, k, hp, hk, rfl, rfl, HSb, HB⟩ := hrel
    by_cases hlt : k < nQ
    · have hkl : (k : Int) < (nQ : Int) := by omega
      have hkx : k < VB.length := by have := HNQ.out; omega
      have HKx := Lib.hid hkx
      obtain ⟨m0, x0, x1, q0⟩ := HS8.out
      obtain ⟨bQ, oQ, rfl, hrow⟩ := (x1.on HB.out).row k hkx
      have HR := Lib.hid hrow
      have HAr := Lib.hid (x0.on HB.out)
      clear m0 x0 x1 q0 hrow
      have HY := Lib.hid (HP3.out _ (List.getElem_mem hkx))
      have HO : Hid (∀ q (hq : q < VA.length), (VB.drop k).Sublist (VA.drop q) → VA[q] ≠ VB[k] → (VB.drop k).Sublist (VA.drop (q + 1))) := Lib.hid (fun q hq h hne => sub_on h hkx hq hne)
      generalize VB[k] = y at *
      clear hkx
      obtain ⟨wo, rfl⟩ : ∃ z, z = wr := ⟨_, rfl⟩
      go_wp2
      go_loopw [10] (fun n wr => ∃ (p : Nat), p < nP ∧ n = .int .i64 p ∧ Hid ((VB.drop k).Sublist (VA.drop p)) ∧ Hid (Below wo.heap.size wo wr)) (fun n _ => nP - (intOf n).toNat)
      case atStart => exact ⟨p, by rw [HNP.out]; exact sub_lt HSb.out HKx.out, rfl, HSb, Lib.hid (Below.refl _ _)⟩
      case round =>
        clear HSb
        obtain ⟨q, hq, rfl, HSb, HB2⟩ := hrel
        have hql : (q : Int) < (nP : Int) := by omega
        have hqx : q < VA.length := by have := HNP.out; omega
        obtain ⟨bP, oP, rfl, rP⟩ := (HAr.out.on HB2.out).row q hqx
        have rQ := HR.out.on HB2.out
        have HO2 := Lib.hid (fun hne => HO.out q hqx HSb.out hne)
        generalize VA[q] = x at *
        clear hqx
        obtain ⟨kx, tx, ox, vx, ux⟩ := x
        obtain ⟨ky, ty, oy, vy, uy⟩ := y
        have hne := fun w => run_neE ⟨kx, tx, ox, vx, ux⟩ ⟨ky, ty, oy, vy, uy⟩ w
        dsimp only at hne
        cases hc : eqEn ⟨kx, tx, ox, vx, ux⟩ ⟨ky, ty, oy, vy, uy⟩ with
        | true =>
          rw [hc] at hne
          simp only [Bool.not_true] at hne
          clear hc HO2
          go_wp2_with fail
          refine wp_region_any (by kernel_rfl) ?_
          change wpAny _ _ _ _ _ _ _ (World.drew _)
          have hS : (fun w' : World => RowAt w' bP (oP + q * 5) ⟨kx, tx, ox, vx, ux⟩ ∧ RowAt w' bQ (oQ + k * 5) ⟨ky, ty, oy, vy, uy⟩ ∧ Below wo.heap.size wo w') wr.drew := ⟨rP, rQ, HB2.out.drew⟩
          refine wpAny_of_held (S := fun w' => RowAt w' bP (oP + q * 5) ⟨kx, tx, ox, vx, ux⟩ ∧ RowAt w' bQ (oQ + k * 5) ⟨ky, ty, oy, vy, uy⟩ ∧ Below wo.heap.size wo w') _ _ _ _ ?_
          clear rP rQ
          refine wpAnyH_takeE (i := 0) (some 36) (v := ?_) rfl rfl (by as_aux_lemma => kernel_rfl) (by as_aux_lemma => kernel_rfl) (by as_aux_lemma => kernel_rfl) (fun _ _ _ h => h) (Or.inl ⟨by kernel_rfl, ?_⟩) hS ?_
          rotate_left
          · intro w hSw; obtain ⟨a0, a1, a2, a3, a4⟩ := hSw.1; obtain ⟨d0, d1, d2, d3, d4⟩ := hSw.2.1; dsimp only at a0 a1 a2 a3 a4 d0 d1 d2 d3 d4; go_simp
            first | done | with_reducible rfl
          refine wpAnyH_takeE (i := 1) (some 37) (v := ?_) rfl rfl (by as_aux_lemma => kernel_rfl) (by as_aux_lemma => kernel_rfl) (by as_aux_lemma => kernel_rfl) (fun _ _ _ h => h) (Or.inl ⟨by kernel_rfl, ?_⟩) hS ?_
          rotate_left
          · intro w hSw; obtain ⟨a0, a1, a2, a3, a4⟩ := hSw.1; obtain ⟨d0, d1, d2, d3, d4⟩ := hSw.2.1; dsimp only at a0 a1 a2 a3 a4 d0 d1 d2 d3 d4; go_simp
            first | done | with_reducible rfl
          refine wpAnyH_takeE (i := 2) (some 38) (v := ?_) rfl rfl (by as_aux_lemma => kernel_rfl) (by as_aux_lemma => kernel_rfl) (by as_aux_lemma => kernel_rfl) (fun _ _ _ h => h) (Or.inl ⟨by kernel_rfl, ?_⟩) hS ?_
          rotate_left
          · intro w hSw; obtain ⟨a0, a1, a2, a3, a4⟩ := hSw.1; obtain ⟨d0, d1, d2, d3, d4⟩ := hSw.2.1; dsimp only at a0 a1 a2 a3 a4 d0 d1 d2 d3 d4; go_simp
            first | done | with_reducible rfl
          refine wpAnyH_takeE (i := 3) (some 39) (v := ?_) rfl rfl (by as_aux_lemma => kernel_rfl) (by as_aux_lemma => kernel_rfl) (by as_aux_lemma => kernel_rfl) (fun _ _ _ h => h) (Or.inl ⟨by kernel_rfl, ?_⟩) hS ?_
          rotate_left
          · intro w hSw; obtain ⟨a0, a1, a2, a3, a4⟩ := hSw.1; obtain ⟨d0, d1, d2, d3, d4⟩ := hSw.2.1; dsimp only at a0 a1 a2 a3 a4 d0 d1 d2 d3 d4; go_simp
            first | done | with_reducible rfl
          refine wpAnyH_takeE (i := 4) (some 40) (v := ?_) rfl rfl (by as_aux_lemma => kernel_rfl) (by as_aux_lemma => kernel_rfl) (by as_aux_lemma => kernel_rfl) (fun _ _ _ h => h) (Or.inl ⟨by kernel_rfl, ?_⟩) hS ?_
          rotate_left
          · intro w hSw; obtain ⟨a0, a1, a2, a3, a4⟩ := hSw.1; obtain ⟨d0, d1, d2, d3, d4⟩ := hSw.2.1; dsimp only at a0 a1 a2 a3 a4 d0 d1 d2 d3 d4; go_simp
            first | done | with_reducible rfl
          refine wpAnyH_takeE (i := 5) (some 41) (v := ?_) rfl rfl (by as_aux_lemma => kernel_rfl) (by as_aux_lemma => kernel_rfl) (by as_aux_lemma => kernel_rfl) (fun _ _ _ h => h) (Or.inl ⟨by kernel_rfl, ?_⟩) hS ?_
          rotate_left
          · intro w hSw; obtain ⟨a0, a1, a2, a3, a4⟩ := hSw.1; obtain ⟨d0, d1, d2, d3, d4⟩ := hSw.2.1; dsimp only at a0 a1 a2 a3 a4 d0 d1 d2 d3 d4; go_simp
            first | done | with_reducible rfl
          refine wpAnyH_takeE (i := 6) (some 42) (v := ?_) rfl rfl (by as_aux_lemma => kernel_rfl) (by as_aux_lemma => kernel_rfl) (by as_aux_lemma => kernel_rfl) (fun _ _ _ h => h) (Or.inl ⟨by kernel_rfl, ?_⟩) hS ?_
          rotate_left
          · intro w hSw; obtain ⟨a0, a1, a2, a3, a4⟩ := hSw.1; obtain ⟨d0, d1, d2, d3, d4⟩ := hSw.2.1; dsimp only at a0 a1 a2 a3 a4 d0 d1 d2 d3 d4; go_simp
            first | done | with_reducible rfl
          refine wpAnyH_takeE (i := 7) (some 43) (v := ?_) rfl rfl (by as_aux_lemma => kernel_rfl) (by as_aux_lemma => kernel_rfl) (by as_aux_lemma => kernel_rfl) (fun _ _ _ h => h) (Or.inl ⟨by kernel_rfl, ?_⟩) hS ?_
          rotate_left
          · intro w hSw; obtain ⟨a0, a1, a2, a3, a4⟩ := hSw.1; obtain ⟨d0, d1, d2, d3, d4⟩ := hSw.2.1; dsimp only at a0 a1 a2 a3 a4 d0 d1 d2 d3 d4; go_simp
            first | done | with_reducible rfl
          refine wpAnyH_takeE (i := 8) (some 44) (v := ?_) rfl rfl (by as_aux_lemma => kernel_rfl) (by as_aux_lemma => kernel_rfl) (by as_aux_lemma => kernel_rfl) (fun _ _ _ h => h) (Or.inl ⟨by kernel_rfl, ?_⟩) hS ?_
          rotate_left
          · intro w hSw; obtain ⟨a0, a1, a2, a3, a4⟩ := hSw.1; obtain ⟨d0, d1, d2, d3, d4⟩ := hSw.2.1; dsimp only at a0 a1 a2 a3 a4 d0 d1 d2 d3 d4; go_simp
            first | done | with_reducible rfl
          refine wpAnyH_takeE (i := 9) (some 45) (v := ?_) rfl rfl (by as_aux_lemma => kernel_rfl) (by as_aux_lemma => kernel_rfl) (by as_aux_lemma => kernel_rfl) (fun _ _ _ h => h) (Or.inl ⟨by kernel_rfl, ?_⟩) hS ?_
          rotate_left
          · intro w hSw; obtain ⟨a0, a1, a2, a3, a4⟩ := hSw.1; obtain ⟨d0, d1, d2, d3, d4⟩ := hSw.2.1; dsimp only at a0 a1 a2 a3 a4 d0 d1 d2 d3 d4; go_simp
            first | done | with_reducible rfl
          refine wpAnyH_takeE (i := 10) (some 46) (v := ?_) rfl rfl (by as_aux_lemma => kernel_rfl) (by as_aux_lemma => kernel_rfl) (by as_aux_lemma => kernel_rfl) (fun _ _ _ h => h) (Or.inl ⟨by kernel_rfl, ?_⟩) hS ?_
          rotate_left
          · intro w hSw; obtain ⟨a0, a1, a2, a3, a4⟩ := hSw.1; obtain ⟨d0, d1, d2, d3, d4⟩ := hSw.2.1; dsimp only at a0 a1 a2 a3 a4 d0 d1 d2 d3 d4; go_simp
            first | done | with_reducible rfl
          refine wpAnyH_takeE (i := 11) (some 47) (v := ?_) rfl rfl (by as_aux_lemma => kernel_rfl) (by as_aux_lemma => kernel_rfl) (by as_aux_lemma => kernel_rfl) (fun _ _ _ h => h) (Or.inl ⟨by kernel_rfl, ?_⟩) hS ?_
          rotate_left
          · intro w hSw; obtain ⟨a0, a1, a2, a3, a4⟩ := hSw.1; obtain ⟨d0, d1, d2, d3, d4⟩ := hSw.2.1; dsimp only at a0 a1 a2 a3 a4 d0 d1 d2 d3 d4; go_simp
            first | done | with_reducible rfl
          refine wpAnyH_takeE (i := 12) (some 48) (v := ?_) rfl rfl (by as_aux_lemma => kernel_rfl) (by as_aux_lemma => kernel_rfl) (by as_aux_lemma => kernel_rfl) (fun _ _ _ h => h) (Or.inl ⟨by kernel_rfl, ?_⟩) hS ?_
          rotate_left
          · intro w hSw; obtain ⟨a0, a1, a2, a3, a4⟩ := hSw.1; obtain ⟨d0, d1, d2, d3, d4⟩ := hSw.2.1; dsimp only at a0 a1 a2 a3 a4 d0 d1 d2 d3 d4; go_simp
            first | done | with_reducible rfl
          refine wpAnyH_takeE (i := 13) (some 49) (v := ?_) rfl rfl (by as_aux_lemma => kernel_rfl) (by as_aux_lemma => kernel_rfl) (by as_aux_lemma => kernel_rfl) (fun _ _ _ h => h) (Or.inl ⟨by kernel_rfl, ?_⟩) hS ?_
          rotate_left
          · intro w hSw; obtain ⟨a0, a1, a2, a3, a4⟩ := hSw.1; obtain ⟨d0, d1, d2, d3, d4⟩ := hSw.2.1; dsimp only at a0 a1 a2 a3 a4 d0 d1 d2 d3 d4; go_simp
            first | done | with_reducible rfl
          refine wpAnyH_takeE (i := 14) (some 50) (v := ?_) rfl rfl (by as_aux_lemma => kernel_rfl) (by as_aux_lemma => kernel_rfl) (by as_aux_lemma => kernel_rfl) (fun _ _ _ h => h) (Or.inl ⟨by kernel_rfl, ?_⟩) hS ?_
          rotate_left
          · intro w hSw; obtain ⟨a0, a1, a2, a3, a4⟩ := hSw.1; obtain ⟨d0, d1, d2, d3, d4⟩ := hSw.2.1; dsimp only at a0 a1 a2 a3 a4 d0 d1 d2 d3 d4; go_simp
            first | done | with_reducible rfl
          have HB3 := Lib.hid hS
          refine wpAnyH_done (by kernel_rfl) ?_ _
          clear hS HB2
          obtain ⟨-, ⟨d0, d1, d2, d3, d4⟩, q3⟩ := HB3.out
          dsimp only at d0 d1 d2 d3 d4
          have HQ3 := Lib.hid q3
          clear q3 HB3
          have hnge : ¬ (nP : Int) ≤ (q : Int) := by omega
          have hcn := fun w => eCounts_any ⟨ky, ty, oy, vy, uy⟩ later w
          have hlu : later < uy := HY.out
          simp only [hlu, decide_true] at hcn
          have HCn := Lib.hid hcn
          clear hcn hlu
          go_simp
          go_wp2_with (go_at_call 29; refine (HCn.out _).mono ?_; rintro e w9 ⟨rfl, q9⟩; replace q9 := Lib.hid q9; refine Hid.out ?_)
          refine Lib.hid ?_
          go_wp2
          go_roundw
          case rel => exact ⟨q, k + 1, by omega, by omega, rfl, by go_num, Lib.hid (sub_next HSb.out), Lib.hid (HB.out.trans ((HQ3.out.trans (q9.out.mono HQ3.out.size)).mono HB.out.size))⟩
          case measure => simp [intOf]; omega
        | false =>
          rw [hc] at hne
          simp only [Bool.not_false] at hne
          have HNx : Hid ((VB.drop k).Sublist (VA.drop (q + 1))) := Lib.hid (HO2.out (fun e => by rw [e, eqEn_refl] at hc; cases hc))
          have hqn : q + 1 < nP := by rw [HNP.out]; exact sub_lt HNx.out HKx.out
          clear hc HO2
          go_wp2_with fail
          refine wp_region_any (by kernel_rfl) ?_
          change wpAny _ _ _ _ _ _ _ (World.drew _)
          have hS : (fun w' : World => RowAt w' bP (oP + q * 5) ⟨kx, tx, ox, vx, ux⟩ ∧ RowAt w' bQ (oQ + k * 5) ⟨ky, ty, oy, vy, uy⟩ ∧ Below wo.heap.size wo w') wr.drew := ⟨rP, rQ, HB2.out.drew⟩
          refine wpAny_of_held (S := fun w' => RowAt w' bP (oP + q * 5) ⟨kx, tx, ox, vx, ux⟩ ∧ RowAt w' bQ (oQ + k * 5) ⟨ky, ty, oy, vy, uy⟩ ∧ Below wo.heap.size wo w') _ _ _ _ ?_
          clear rP rQ
          refine wpAnyH_takeE (i := 0) (some 36) (v := ?_) rfl rfl (by as_aux_lemma => kernel_rfl) (by as_aux_lemma => kernel_rfl) (by as_aux_lemma => kernel_rfl) (fun _ _ _ h => h) (Or.inl ⟨by kernel_rfl, ?_⟩) hS ?_
          rotate_left
          · intro w hSw; obtain ⟨a0, a1, a2, a3, a4⟩ := hSw.1; obtain ⟨d0, d1, d2, d3, d4⟩ := hSw.2.1; dsimp only at a0 a1 a2 a3 a4 d0 d1 d2 d3 d4; go_simp
            first | done | with_reducible rfl
          refine wpAnyH_takeE (i := 1) (some 37) (v := ?_) rfl rfl (by as_aux_lemma => kernel_rfl) (by as_aux_lemma => kernel_rfl) (by as_aux_lemma => kernel_rfl) (fun _ _ _ h => h) (Or.inl ⟨by kernel_rfl, ?_⟩) hS ?_
          rotate_left
          · intro w hSw; obtain ⟨a0, a1, a2, a3, a4⟩ := hSw.1; obtain ⟨d0, d1, d2, d3, d4⟩ := hSw.2.1; dsimp only at a0 a1 a2 a3 a4 d0 d1 d2 d3 d4; go_simp
            first | done | with_reducible rfl
          refine wpAnyH_takeE (i := 2) (some 38) (v := ?_) rfl rfl (by as_aux_lemma => kernel_rfl) (by as_aux_lemma => kernel_rfl) (by as_aux_lemma => kernel_rfl) (fun _ _ _ h => h) (Or.inl ⟨by kernel_rfl, ?_⟩) hS ?_
          rotate_left
          · intro w hSw; obtain ⟨a0, a1, a2, a3, a4⟩ := hSw.1; obtain ⟨d0, d1, d2, d3, d4⟩ := hSw.2.1; dsimp only at a0 a1 a2 a3 a4 d0 d1 d2 d3 d4; go_simp
            first | done | with_reducible rfl
          refine wpAnyH_takeE (i := 3) (some 39) (v := ?_) rfl rfl (by as_aux_lemma => kernel_rfl) (by as_aux_lemma => kernel_rfl) (by as_aux_lemma => kernel_rfl) (fun _ _ _ h => h) (Or.inl ⟨by kernel_rfl, ?_⟩) hS ?_
          rotate_left
          · intro w hSw; obtain ⟨a0, a1, a2, a3, a4⟩ := hSw.1; obtain ⟨d0, d1, d2, d3, d4⟩ := hSw.2.1; dsimp only at a0 a1 a2 a3 a4 d0 d1 d2 d3 d4; go_simp
            first | done | with_reducible rfl
          refine wpAnyH_takeE (i := 4) (some 40) (v := ?_) rfl rfl (by as_aux_lemma => kernel_rfl) (by as_aux_lemma => kernel_rfl) (by as_aux_lemma => kernel_rfl) (fun _ _ _ h => h) (Or.inl ⟨by kernel_rfl, ?_⟩) hS ?_
          rotate_left
          · intro w hSw; obtain ⟨a0, a1, a2, a3, a4⟩ := hSw.1; obtain ⟨d0, d1, d2, d3, d4⟩ := hSw.2.1; dsimp only at a0 a1 a2 a3 a4 d0 d1 d2 d3 d4; go_simp
            first | done | with_reducible rfl
          refine wpAnyH_takeE (i := 5) (some 41) (v := ?_) rfl rfl (by as_aux_lemma => kernel_rfl) (by as_aux_lemma => kernel_rfl) (by as_aux_lemma => kernel_rfl) (fun _ _ _ h => h) (Or.inl ⟨by kernel_rfl, ?_⟩) hS ?_
          rotate_left
          · intro w hSw; obtain ⟨a0, a1, a2, a3, a4⟩ := hSw.1; obtain ⟨d0, d1, d2, d3, d4⟩ := hSw.2.1; dsimp only at a0 a1 a2 a3 a4 d0 d1 d2 d3 d4; go_simp
            first | done | with_reducible rfl
          refine wpAnyH_takeE (i := 6) (some 42) (v := ?_) rfl rfl (by as_aux_lemma => kernel_rfl) (by as_aux_lemma => kernel_rfl) (by as_aux_lemma => kernel_rfl) (fun _ _ _ h => h) (Or.inl ⟨by kernel_rfl, ?_⟩) hS ?_
          rotate_left
          · intro w hSw; obtain ⟨a0, a1, a2, a3, a4⟩ := hSw.1; obtain ⟨d0, d1, d2, d3, d4⟩ := hSw.2.1; dsimp only at a0 a1 a2 a3 a4 d0 d1 d2 d3 d4; go_simp
            first | done | with_reducible rfl
          refine wpAnyH_takeE (i := 7) (some 43) (v := ?_) rfl rfl (by as_aux_lemma => kernel_rfl) (by as_aux_lemma => kernel_rfl) (by as_aux_lemma => kernel_rfl) (fun _ _ _ h => h) (Or.inl ⟨by kernel_rfl, ?_⟩) hS ?_
          rotate_left
          · intro w hSw; obtain ⟨a0, a1, a2, a3, a4⟩ := hSw.1; obtain ⟨d0, d1, d2, d3, d4⟩ := hSw.2.1; dsimp only at a0 a1 a2 a3 a4 d0 d1 d2 d3 d4; go_simp
            first | done | with_reducible rfl
          refine wpAnyH_takeE (i := 8) (some 44) (v := ?_) rfl rfl (by as_aux_lemma => kernel_rfl) (by as_aux_lemma => kernel_rfl) (by as_aux_lemma => kernel_rfl) (fun _ _ _ h => h) (Or.inl ⟨by kernel_rfl, ?_⟩) hS ?_
          rotate_left
          · intro w hSw; obtain ⟨a0, a1, a2, a3, a4⟩ := hSw.1; obtain ⟨d0, d1, d2, d3, d4⟩ := hSw.2.1; dsimp only at a0 a1 a2 a3 a4 d0 d1 d2 d3 d4; go_simp
            first | done | with_reducible rfl
          refine wpAnyH_takeE (i := 9) (some 45) (v := ?_) rfl rfl (by as_aux_lemma => kernel_rfl) (by as_aux_lemma => kernel_rfl) (by as_aux_lemma => kernel_rfl) (fun _ _ _ h => h) (Or.inl ⟨by kernel_rfl, ?_⟩) hS ?_
          rotate_left
          · intro w hSw; obtain ⟨a0, a1, a2, a3, a4⟩ := hSw.1; obtain ⟨d0, d1, d2, d3, d4⟩ := hSw.2.1; dsimp only at a0 a1 a2 a3 a4 d0 d1 d2 d3 d4; go_simp
            first | done | with_reducible rfl
          refine wpAnyH_takeE (i := 10) (some 46) (v := ?_) rfl rfl (by as_aux_lemma => kernel_rfl) (by as_aux_lemma => kernel_rfl) (by as_aux_lemma => kernel_rfl) (fun _ _ _ h => h) (Or.inl ⟨by kernel_rfl, ?_⟩) hS ?_
          rotate_left
          · intro w hSw; obtain ⟨a0, a1, a2, a3, a4⟩ := hSw.1; obtain ⟨d0, d1, d2, d3, d4⟩ := hSw.2.1; dsimp only at a0 a1 a2 a3 a4 d0 d1 d2 d3 d4; go_simp
            first | done | with_reducible rfl
          refine wpAnyH_takeE (i := 11) (some 47) (v := ?_) rfl rfl (by as_aux_lemma => kernel_rfl) (by as_aux_lemma => kernel_rfl) (by as_aux_lemma => kernel_rfl) (fun _ _ _ h => h) (Or.inl ⟨by kernel_rfl, ?_⟩) hS ?_
          rotate_left
          · intro w hSw; obtain ⟨a0, a1, a2, a3, a4⟩ := hSw.1; obtain ⟨d0, d1, d2, d3, d4⟩ := hSw.2.1; dsimp only at a0 a1 a2 a3 a4 d0 d1 d2 d3 d4; go_simp
            first | done | with_reducible rfl
          refine wpAnyH_takeE (i := 12) (some 48) (v := ?_) rfl rfl (by as_aux_lemma => kernel_rfl) (by as_aux_lemma => kernel_rfl) (by as_aux_lemma => kernel_rfl) (fun _ _ _ h => h) (Or.inl ⟨by kernel_rfl, ?_⟩) hS ?_
          rotate_left
          · intro w hSw; obtain ⟨a0, a1, a2, a3, a4⟩ := hSw.1; obtain ⟨d0, d1, d2, d3, d4⟩ := hSw.2.1; dsimp only at a0 a1 a2 a3 a4 d0 d1 d2 d3 d4; go_simp
            first | done | with_reducible rfl
          refine wpAnyH_takeE (i := 13) (some 49) (v := ?_) rfl rfl (by as_aux_lemma => kernel_rfl) (by as_aux_lemma => kernel_rfl) (by as_aux_lemma => kernel_rfl) (fun _ _ _ h => h) (Or.inl ⟨by kernel_rfl, ?_⟩) hS ?_
          rotate_left
          · intro w hSw; obtain ⟨a0, a1, a2, a3, a4⟩ := hSw.1; obtain ⟨d0, d1, d2, d3, d4⟩ := hSw.2.1; dsimp only at a0 a1 a2 a3 a4 d0 d1 d2 d3 d4; go_simp
            first | done | with_reducible rfl
          refine wpAnyH_takeE (i := 14) (some 50) (v := ?_) rfl rfl (by as_aux_lemma => kernel_rfl) (by as_aux_lemma => kernel_rfl) (by as_aux_lemma => kernel_rfl) (fun _ _ _ h => h) (Or.inl ⟨by kernel_rfl, ?_⟩) hS ?_
          rotate_left
          · intro w hSw; obtain ⟨a0, a1, a2, a3, a4⟩ := hSw.1; obtain ⟨d0, d1, d2, d3, d4⟩ := hSw.2.1; dsimp only at a0 a1 a2 a3 a4 d0 d1 d2 d3 d4; go_simp
            first | done | with_reducible rfl
          have HB3 := Lib.hid hS
          refine wpAnyH_done (by kernel_rfl) ?_ _
          clear hS HB2
          go_simp
          go_wp2
          go_roundw
          case rel => exact ⟨q + 1, hqn, by go_num, HNx, Lib.hid HB3.out.2.2⟩
          case measure => simp [intOf]; omega
    · have hkl : ¬ (k : Int) < (nQ : Int) := by omega
      obtain ⟨m0, x0, x1, q0⟩ := HS8.out
      have HS9 : Hid (CAt wr sb2 bm2 X ∧ EntsAt wr aP VA ∧ EntsAt wr aQ VB ∧ Below W.heap.size W wr) := Lib.hid ⟨m0.on HB.out, x0.on HB.out, x1.on HB.out, q0.trans (HB.out.mono q0.size)⟩
      clear m0 x0 x1 q0 HS8
      clear HSb HB
      obtain ⟨m0, x0, x1, q0⟩ := HS9.out
      have HC10 := Lib.hid (cFork_any sb2 bm2 X wr m0)
      clear m0 x0 x1 q0
      go_wp2_with (go_at_call 23; refine HC10.out.mono ?_; rintro e w10 ⟨sb10, bm10, rfl, hm, hge, q⟩; refine Hid.out ?_)
      refine Lib.hid ?_
      obtain ⟨m0, x0, x1, q0⟩ := HS9.out
      have HNE_0_1 : Hid (bm2 ≠ bm10) := Lib.hid (by have := m0.2.1.lt; omega)
      have HGE_1 : Hid (W.heap.size ≤ bm10) := Lib.hid (Nat.le_trans q0.size hge.2)
      clear m0 x0 x1 q0
      obtain ⟨m0, x0, x1, q0⟩ := HS9.out
      have HS11 : Hid (CAt w10 sb2 bm2 X ∧ CAt w10 sb10 bm10 X ∧ EntsAt w10 aP VA ∧ EntsAt w10 aQ VB ∧ Below W.heap.size W w10) := Lib.hid ⟨m0.on q, hm, x0.on q, x1.on q, q0.trans (q.mono q0.size)⟩
      clear m0 x0 x1 q0 HS9
      clear hm hge q HC10
      obtain ⟨m0, m1, x0, x1, q0⟩ := HS11.out
      have HC12 := Lib.hid (cForget_any sb10 bm10 X now w10 m1)
      rw [HEA.out] at HC12
      clear m0 m1 x0 x1 q0
      generalize ((X.length : Int) - (VA.length : Int)) = cn12 at HC12
      go_wp2_with (go_at_call 24; refine HC12.out.mono ?_; rintro e w12 ⟨rfl, hg, hm⟩; refine Hid.out ?_)
      refine Lib.hid ?_
      obtain ⟨m0, m1, x0, x1, q0⟩ := HS11.out
      have HS13 : Hid (CAt w12 sb2 bm2 X ∧ CAt w12 sb10 bm10 VA ∧ EntsAt w12 aP VA ∧ EntsAt w12 aQ VB ∧ Below W.heap.size W w12) := Lib.hid ⟨m0.apart2 m1.2.1 hg (HNE_0_1.out), hm, x0.turn hg m1.2.1, x1.turn hg m1.2.1, q0.grown hg q0.size (fun j hj => by cases hj; exact HGE_1.out)⟩
      clear m0 m1 x0 x1 q0 HS11
      clear hm hg HC12
      obtain ⟨m0, m1, x0, x1, q0⟩ := HS13.out
      have HFkR : Hid (∀ y ∈ VA, y.k.size ≤ 9223372036854775807) := Lib.hid (fun y hy => by have := checkEn_zero (m1.2.2.1 y hy); omega)
      clear m0 m1 x0 x1 q0
      obtain ⟨m0, m1, x0, x1, q0⟩ := HS13.out
      have HC14 := Lib.hid (cList_any sb10 bm10 VA w12 m1)
      have HL14 := Lib.hid m1.2.2.2
      clear m0 m1 x0 x1 q0
      go_wp2_with (go_at_call 26; refine HC14.out.mono ?_; rintro e w14 ⟨v, rfl, ho, q⟩; refine Hid.out ?_)
      refine Lib.hid ?_
      obtain ⟨aR, cR, rfl, -, -, he⟩ := ho.form
      obtain ⟨nR, hnR⟩ : ∃ n, n = (VA).length := ⟨_, rfl⟩
      rw [← hnR]
      have HNR := Lib.hid hnR
      have HLeR : Hid ((VA).length ≤ 9223372036854775807) := Lib.hid (by have := HL14.out; omega)
      clear hnR
      obtain ⟨m0, m1, x0, x1, q0⟩ := HS13.out
      have HS15 : Hid (CAt w14 sb2 bm2 X ∧ CAt w14 sb10 bm10 VA ∧ EntsAt w14 aP VA ∧ EntsAt w14 aQ VB ∧ EntsAt w14 aR VA ∧ Below W.heap.size W w14) := Lib.hid ⟨m0.on q, m1.on q, x0.on q, x1.on q, he, q0.trans (q.mono q0.size)⟩
      clear m0 m1 x0 x1 q0 HS13
      clear he q ho HC14 HL14
      obtain ⟨m0, m1, x0, x1, x2, q0⟩ := HS15.out
      have HC16 := Lib.hid (cSame_any aR aP cR cP VA VA w14 x2 x0 HLeR.out nR nP HNR.out HNP.out)
      rw [sameC_refl VA] at HC16
      clear m0 m1 x0 x1 x2 q0
      go_wp2_with (go_at_call 22; refine HC16.out.mono ?_; rintro e w16 ⟨rfl, q⟩; refine Hid.out ?_)
      refine Lib.hid ?_
      obtain ⟨m0, m1, x0, x1, x2, q0⟩ := HS15.out
      have HS17 : Hid (CAt w16 sb2 bm2 X ∧ CAt w16 sb10 bm10 VA ∧ EntsAt w16 aP VA ∧ EntsAt w16 aQ VB ∧ EntsAt w16 aR VA ∧ Below W.heap.size W w16) := Lib.hid ⟨m0.on q, m1.on q, x0.on q, x1.on q, x2.on q, q0.trans (q.mono q0.size)⟩
      clear m0 m1 x0 x1 x2 q0 HS15
      clear q HC16
      obtain ⟨m0, m1, x0, x1, x2, q0⟩ := HS17.out
      have HS18 : Hid (CAt w16 sb2 bm2 X ∧ CAt w16 sb10 bm10 VA ∧ EntsAt w16 aQ VB ∧ Below W.heap.size W w16) := Lib.hid ⟨m0, m1, x1, q0⟩
      clear m0 m1 x0 x1 x2 q0 HS17
      obtain ⟨m0, m1, x0, q0⟩ := HS18.out
      have HC19 := Lib.hid (cView_any sb10 bm10 VA later w16 m1)
      rw [HP2.out] at HC19
      have HL19 : Hid ((VB).length ≤ 256) := Lib.hid (by rw [← HP2.out]; exact Nat.le_trans (List.length_filter_le _ _) m1.2.2.2)
      clear m0 m1 x0 q0
      go_wp2_with (go_at_call 18; refine HC19.out.mono ?_; rintro e w19 ⟨v, rfl, ho, q⟩; refine Hid.out ?_)
      refine Lib.hid ?_
      obtain ⟨aT, cT, rfl, -, -, he⟩ := ho.form
      obtain ⟨nT, hnT⟩ : ∃ n, n = (VB).length := ⟨_, rfl⟩
      rw [← hnT]
      have HNT := Lib.hid hnT
      have HLeT : Hid ((VB).length ≤ 9223372036854775807) := Lib.hid (by have := HL19.out; omega)
      have HMT : Hid (nT ≤ 256) := Lib.hid (by rw [HNT.out]; exact HL19.out)
      clear hnT
      obtain ⟨m0, m1, x0, q0⟩ := HS18.out
      have HS20 : Hid (CAt w19 sb2 bm2 X ∧ CAt w19 sb10 bm10 VA ∧ EntsAt w19 aQ VB ∧ EntsAt w19 aT VB ∧ Below W.heap.size W w19) := Lib.hid ⟨m0.on q, m1.on q, x0.on q, he, q0.trans (q.mono q0.size)⟩
      clear m0 m1 x0 q0 HS18
      clear he q ho HC19 HL19
      obtain ⟨m0, m1, x0, x1, q0⟩ := HS20.out
      have HC21 := Lib.hid (cSame_any aT aQ cT cQ VB VB w19 x1 x0 HLeT.out nT nQ HNT.out HNQ.out)
      rw [sameC_refl VB] at HC21
      clear m0 m1 x0 x1 q0
      go_wp2_with (go_at_call 22; refine HC21.out.mono ?_; rintro e w21 ⟨rfl, q⟩; refine Hid.out ?_)
      refine Lib.hid ?_
      obtain ⟨m0, m1, x0, x1, q0⟩ := HS20.out
      have HS22 : Hid (CAt w21 sb2 bm2 X ∧ CAt w21 sb10 bm10 VA ∧ EntsAt w21 aQ VB ∧ EntsAt w21 aT VB ∧ Below W.heap.size W w21) := Lib.hid ⟨m0.on q, m1.on q, x0.on q, x1.on q, q0.trans (q.mono q0.size)⟩
      clear m0 m1 x0 x1 q0 HS20
      clear q HC21
      obtain ⟨m0, m1, x0, x1, q0⟩ := HS22.out
      have HS23 : Hid (CAt w21 sb2 bm2 X ∧ CAt w21 sb10 bm10 VA ∧ Below W.heap.size W w21) := Lib.hid ⟨m0, m1, q0⟩
      clear m0 m1 x0 x1 q0 HS22
      obtain ⟨m0, m1, q0⟩ := HS23.out
      obtain ⟨nX, hnX⟩ : ∃ n, n = X.length := ⟨_, rfl⟩
      have HCL := Lib.hid (cLen_any sb2 bm2 X w21 m0)
      rw [← hnX] at HCL
      have HNX := Lib.hid hnX
      clear hnX m0 m1 q0
      go_wp2_with (go_at_call 27; refine HCL.out.mono ?_; rintro e w99 ⟨rfl, hw⟩; have hw' := hw.symm; clear hw; subst hw'; refine Hid.out ?_)
      refine Lib.hid ?_
      obtain ⟨m0, m1, q0⟩ := HS23.out
      have HFkU : Hid (∀ y ∈ X, y.k.size ≤ 9223372036854775807) := Lib.hid (fun y hy => by have := checkEn_zero (m0.2.2.1 y hy); omega)
      clear m0 m1 q0
      obtain ⟨m0, m1, q0⟩ := HS23.out
      have HC24 := Lib.hid (cList_any sb2 bm2 X w21 m0)
      have HL24 := Lib.hid m0.2.2.2
      clear m0 m1 q0
      go_wp2_with (go_at_call 26; refine HC24.out.mono ?_; rintro e w24 ⟨v, rfl, ho, q⟩; refine Hid.out ?_)
      refine Lib.hid ?_
      obtain ⟨aU, cU, rfl, -, -, he⟩ := ho.form
      obtain ⟨nU, hnU⟩ : ∃ n, n = (X).length := ⟨_, rfl⟩
      rw [← hnU]
      have HNU := Lib.hid hnU
      have HLeU : Hid ((X).length ≤ 9223372036854775807) := Lib.hid (by have := HL24.out; omega)
      clear hnU
      obtain ⟨m0, m1, q0⟩ := HS23.out
      have HS25 : Hid (CAt w24 sb2 bm2 X ∧ CAt w24 sb10 bm10 VA ∧ EntsAt w24 aU X ∧ Below W.heap.size W w24) := Lib.hid ⟨m0.on q, m1.on q, he, q0.trans (q.mono q0.size)⟩
      clear m0 m1 q0 HS23
      clear he q ho HC24 HL24
      obtain rfl : nU = nX := HNU.out.trans HNX.out.symm
      go_wp2_with (go_at_call 8; refine (cawake_any _).mono ?_; rintro e w26 ⟨rfl, q⟩)
      obtain ⟨m0, m1, x0, q0⟩ := HS25.out
      go_ret
      exact ⟨rfl, q0.trans (q.mono q0.size)⟩

end Go.Proofs.Ytfllfmdopfeecaa
