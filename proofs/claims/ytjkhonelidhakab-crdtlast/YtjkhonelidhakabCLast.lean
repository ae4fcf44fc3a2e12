/-
  The walk of CrdtLast.
-/
import Derived.Test.YtjkhonelidhakabC9
namespace Go.Proofs.Ytjkhonelidhakab
open Go.RowKit Go.Maps

/-- Whether an entry is one of the first n. -/
def anyE (l : List Ent) (n : Nat) (x : Ent) : Bool := (l.take n).any fun y => eqEn y x
theorem anyE_succ (l : List Ent) (n : Nat) (x : Ent) (h : n < l.length) : anyE l (n + 1) x = (anyE l n x || eqEn l[n] x) := by
  unfold anyE
  rw [List.take_succ_eq_append_getElem h, List.any_append]
  simp
theorem anyE_all {l : List Ent} {n : Nat} {x : Ent} (h : x ∈ l) (hn : l.length ≤ n) : anyE l n x = true := by
  unfold anyE
  rw [List.take_of_length_le hn]
  exact List.any_eq_true.2 ⟨x, h, eqEn_refl x⟩
theorem rising_at {S : List Ent} (h : RisingC S) (k : Nat) (hk : k + 1 < S.length) : S[k].key < S[k + 1].key := List.pairwise_iff_getElem.1 h k (k + 1) (by omega) hk (by omega)

set_option maxRecDepth 100000 in
set_option maxHeartbeats 16000000 in
theorem last_walk (aA : Option Addr) (cA : Nat) (lA : List Ent) (W : World) (heA : EntsAt W aA lA) (hfA : ∀ y ∈ lA, y.k.size ≤ maxLen) (nA : Nat) (hA : nA = lA.length) :
    Calls Try.prog 5 #[.slice aA nA cA] W fun e w' => e = .returned (.bool true) ∧ Below W.heap.size W w' := by
  by_cases h1 : 250 < nA
  · have g1 : (250 : Int) < (nA : Int) := by omega
    go_enter Try.func5, Try.ntmps5
    go_wp2_with (go_at_call 10; refine (cawake_any _).mono ?_; rintro e w1 ⟨rfl, q⟩)
    go_ret
    exact ⟨rfl, q⟩
  have g1 : ¬ (250 : Int) < (nA : Int) := by omega
  have hb := best_of (U := lA) (l := lA) (by omega) (fun y hy => hy)
  have HNA := Lib.hid hA
  have HLA : Hid (lA.length ≤ 9223372036854775807) := Lib.hid (by omega)
  have hnA : nA ≤ 250 := by omega
  have HF := Lib.hid hfA
  clear h1 hA hfA
  obtain ⟨X, eX⟩ : ∃ S, mergeS [] lA = S := ⟨_, rfl⟩
  rw [eX] at hb
  have HEX := Lib.hid eX
  have HBest := Lib.hid hb
  clear eX hb
  have HS1 : Hid (EntsAt W aA lA ∧ Below W.heap.size W W) := Lib.hid ⟨heA, Below.refl _ _⟩
  clear heA
  go_enter Try.func5, Try.ntmps5
  obtain ⟨x0, q0⟩ := HS1.out
  have HC2 := Lib.hid (cof_any aA cA lA W x0 HLA.out nA HNA.out)
  clear x0 q0
  go_wp2_with (go_at_call 24; refine HC2.out.mono ?_; rintro e w2 ⟨sb2, bm2, rfl, hm, hge, q⟩; refine Hid.out ?_)
  refine Lib.hid ?_
  rw [HEX.out] at hm
  obtain ⟨x0, q0⟩ := HS1.out
  have HGE_0 : Hid (W.heap.size ≤ bm2) := Lib.hid (Nat.le_trans q0.size hge.2)
  clear x0 q0
  obtain ⟨x0, q0⟩ := HS1.out
  have HS3 : Hid (CAt w2 sb2 bm2 X ∧ EntsAt w2 aA lA ∧ Below W.heap.size W w2) := Lib.hid ⟨hm, x0.on q, q0.trans (q.mono q0.size)⟩
  clear x0 q0 HS1
  clear hm hge q HC2
  obtain ⟨m0, x0, q0⟩ := HS3.out
  have HFkP : Hid (∀ y ∈ X, y.k.size ≤ 9223372036854775807) := Lib.hid (fun y hy => by have := checkEn_zero (m0.2.2.1 y hy); omega)
  clear m0 x0 q0
  obtain ⟨m0, x0, q0⟩ := HS3.out
  have HC4 := Lib.hid (cList_any sb2 bm2 X w2 m0)
  have HL4 := Lib.hid m0.2.2.2
  clear m0 x0 q0
  go_wp2_with (go_at_call 19; refine HC4.out.mono ?_; rintro e w4 ⟨v, rfl, ho, q⟩; refine Hid.out ?_)
  refine Lib.hid ?_
  obtain ⟨aP, cP, rfl, -, -, he⟩ := ho.form
  obtain ⟨nP, hnP⟩ : ∃ n, n = (X).length := ⟨_, rfl⟩
  rw [← hnP]
  have HNP := Lib.hid hnP
  have HLeP : Hid ((X).length ≤ 9223372036854775807) := Lib.hid (by have := HL4.out; omega)
  clear hnP
  obtain ⟨m0, x0, q0⟩ := HS3.out
  have HS5 : Hid (CAt w4 sb2 bm2 X ∧ EntsAt w4 aA lA ∧ EntsAt w4 aP X ∧ Below W.heap.size W w4) := Lib.hid ⟨m0.on q, x0.on q, he, q0.trans (q.mono q0.size)⟩
  clear m0 x0 q0 HS3
  clear he q ho HC4 HL4
  obtain ⟨hnP⟩ : Nonempty (nP ≤ 256) := ⟨by obtain ⟨m0, x0, x1, q0⟩ := HS5.out; rw [HNP.out]; exact m0.2.2.2⟩
  go_wp2
  go_loopw [5] (fun i wr => ∃ (k : Nat), k ≤ nP ∧ i = .int .i64 k ∧ Hid (Below w4.heap.size w4 wr)) (fun i _ => nP - (intOf i).toNat)
  case atStart => exact ⟨0, Nat.zero_le _, rfl, Lib.hid (Below.refl _ _)⟩
  case round =>
    obtain ⟨k, hk, rfl, HB⟩ := hrel
    by_cases hlt : k < nP
    · have hkl : (k : Int) < (nP : Int) := by omega
      have hkx : k < X.length := by have := HNP.out; omega
      obtain ⟨m0, x0, x1, q0⟩ := HS5.out
      obtain ⟨bP, oP, rfl, hrow⟩ := (x1.on HB.out).row k hkx
      have hcame := HBest.out.2.1 _ (List.getElem_mem hkx)
      have HA := Lib.hid (x0.on HB.out)
      have HPR : Hid (∀ j (hj : j + 1 = k), ∃ y : Ent, RowAt wr bP (oP + j * 5) y ∧ y.key < X[k].key) := Lib.hid (fun j hj => by
        subst hj
        obtain ⟨b', o', e', r'⟩ := (x1.on HB.out).row j (by omega)
        obtain ⟨rfl, rfl⟩ : b' = bP ∧ o' = oP := by simpa [eq_comm] using e'
        exact ⟨_, r', rising_at HBest.out.1 j hkx⟩)
      clear m0 x0 x1 q0
      generalize X[k] = x at *
      have HX := Lib.hid hcame
      have HR := Lib.hid hrow
      clear hcame hrow hkx
      obtain ⟨wo, rfl⟩ : ∃ z, z = wr := ⟨_, rfl⟩
      go_wp2
      go_loopw [6, 7] (fun c j wr => ∃ (n : Nat), n ≤ nA ∧ j = .int .i64 n ∧ c = .bool (anyE lA n x) ∧ Hid (Below wo.heap.size wo wr)) (fun _ j _ => nA - (intOf j).toNat)
      case atStart => exact ⟨0, Nat.zero_le _, rfl, rfl, Lib.hid (Below.refl _ _)⟩
      case round =>
        obtain ⟨n, hn, rfl, rfl, HB2⟩ := hrel
        by_cases hln : n < nA
        · have hnl : (n : Int) < (nA : Int) := by omega
          have hnx : n < lA.length := by have := HNA.out; omega
          obtain ⟨bA, oA, rfl, rA⟩ := (HA.out.on HB2.out).row n hnx
          have rX := HR.out.on HB2.out
          have HS := Lib.hid (anyE_succ lA n x hnx)
          generalize lA[n] = y at *
          clear hnx
          cases hc : anyE lA n x with
          | true =>
            rw [hc] at HS
            have HS2 : Hid (anyE lA (n + 1) x = true) := Lib.hid (by rw [HS.out]; rfl)
            clear HS hc rA rX
            go_wp2_with fail
            refine wp_region_any (by kernel_rfl) ?_
            change wpAny _ _ _ _ _ _ _ (World.drew _)
            have hS : (fun w' : World => Below wo.heap.size wo w') wr.drew := HB2.out.drew
            refine wpAny_of_held (S := fun w' => Below wo.heap.size wo w') _ _ _ _ ?_
            refine wpAnyH_takeE (i := 0) (some 31) (v := ?_) rfl rfl (by as_aux_lemma => kernel_rfl) (by as_aux_lemma => kernel_rfl) (by as_aux_lemma => kernel_rfl) (fun _ _ _ h => h) (Or.inl ⟨by kernel_rfl, ?_⟩) hS ?_
            rotate_left
            · intro w hSw; skip; go_simp
              first | done | with_reducible rfl
            refine wpAnyH_takeE (i := 1) (some 32) (v := ?_) rfl rfl (by as_aux_lemma => kernel_rfl) (by as_aux_lemma => kernel_rfl) (by as_aux_lemma => kernel_rfl) (fun _ _ _ h => h) (Or.inl ⟨by kernel_rfl, ?_⟩) hS ?_
            rotate_left
            · intro w hSw; skip; go_simp
              first | done | with_reducible rfl
            refine wpAnyH_takeE (i := 2) (some 33) (v := undef) rfl rfl (by as_aux_lemma => kernel_rfl) (by as_aux_lemma => kernel_rfl) (by as_aux_lemma => kernel_rfl) (fun _ _ _ h => h) (Or.inr ⟨by kernel_rfl, rfl⟩) hS ?_
            refine wpAnyH_takeE (i := 3) (some 34) (v := undef) rfl rfl (by as_aux_lemma => kernel_rfl) (by as_aux_lemma => kernel_rfl) (by as_aux_lemma => kernel_rfl) (fun _ _ _ h => h) (Or.inr ⟨by kernel_rfl, rfl⟩) hS ?_
            refine wpAnyH_takeE (i := 4) (some 35) (v := undef) rfl rfl (by as_aux_lemma => kernel_rfl) (by as_aux_lemma => kernel_rfl) (by as_aux_lemma => kernel_rfl) (fun _ _ _ h => h) (Or.inr ⟨by kernel_rfl, rfl⟩) hS ?_
            refine wpAnyH_takeE (i := 5) (some 36) (v := undef) rfl rfl (by as_aux_lemma => kernel_rfl) (by as_aux_lemma => kernel_rfl) (by as_aux_lemma => kernel_rfl) (fun _ _ _ h => h) (Or.inr ⟨by kernel_rfl, rfl⟩) hS ?_
            refine wpAnyH_takeE (i := 6) (some 37) (v := undef) rfl rfl (by as_aux_lemma => kernel_rfl) (by as_aux_lemma => kernel_rfl) (by as_aux_lemma => kernel_rfl) (fun _ _ _ h => h) (Or.inr ⟨by kernel_rfl, rfl⟩) hS ?_
            refine wpAnyH_takeE (i := 7) (some 38) (v := undef) rfl rfl (by as_aux_lemma => kernel_rfl) (by as_aux_lemma => kernel_rfl) (by as_aux_lemma => kernel_rfl) (fun _ _ _ h => h) (Or.inr ⟨by kernel_rfl, rfl⟩) hS ?_
            refine wpAnyH_takeE (i := 8) (some 39) (v := undef) rfl rfl (by as_aux_lemma => kernel_rfl) (by as_aux_lemma => kernel_rfl) (by as_aux_lemma => kernel_rfl) (fun _ _ _ h => h) (Or.inr ⟨by kernel_rfl, rfl⟩) hS ?_
            refine wpAnyH_takeE (i := 9) (some 40) (v := undef) rfl rfl (by as_aux_lemma => kernel_rfl) (by as_aux_lemma => kernel_rfl) (by as_aux_lemma => kernel_rfl) (fun _ _ _ h => h) (Or.inr ⟨by kernel_rfl, rfl⟩) hS ?_
            refine wpAnyH_takeE (i := 10) (some 41) (v := undef) rfl rfl (by as_aux_lemma => kernel_rfl) (by as_aux_lemma => kernel_rfl) (by as_aux_lemma => kernel_rfl) (fun _ _ _ h => h) (Or.inr ⟨by kernel_rfl, rfl⟩) hS ?_
            refine wpAnyH_takeE (i := 11) (some 42) (v := ?_) rfl rfl (by as_aux_lemma => kernel_rfl) (by as_aux_lemma => kernel_rfl) (by as_aux_lemma => kernel_rfl) (fun _ _ _ h => h) (Or.inl ⟨by kernel_rfl, ?_⟩) hS ?_
            rotate_left
            · intro w hSw; skip; go_simp
              first | done | with_reducible rfl
            refine wpAnyH_takeE (i := 12) (some 6) (v := ?_) rfl rfl (by as_aux_lemma => kernel_rfl) (by as_aux_lemma => kernel_rfl) (by as_aux_lemma => kernel_rfl) (fun _ _ _ h => h) (Or.inl ⟨by kernel_rfl, ?_⟩) hS ?_
            rotate_left
            · intro w hSw; skip; go_simp
              first | done | with_reducible rfl
            have HB3 := Lib.hid hS
            refine wpAnyH_done (by kernel_rfl) ?_ _
            clear hS
            go_wp2
            go_roundw
            case rel => exact ⟨n + 1, by omega, by go_num, by rw [HS2.out], HB3⟩
            case measure => simp [intOf]; omega
          | false =>
            rw [hc] at HS
            have HS2 : Hid (anyE lA (n + 1) x = eqEn y x) := Lib.hid (by rw [HS.out]; rfl)
            have heq := fun w => run_eqE y x w
            obtain ⟨ky, ty, oy, vy, uy⟩ := y
            obtain ⟨kx, tx, ox, vx, ux⟩ := x
            generalize eqEn ⟨ky, ty, oy, vy, uy⟩ ⟨kx, tx, ox, vx, ux⟩ = qq at *
            dsimp only at heq
            clear HS hc
            go_wp2_with fail
            refine wp_region_any (by kernel_rfl) ?_
            change wpAny _ _ _ _ _ _ _ (World.drew _)
            have hS : (fun w' : World => RowAt w' bA (oA + n * 5) ⟨ky, ty, oy, vy, uy⟩ ∧ RowAt w' bP (oP + k * 5) ⟨kx, tx, ox, vx, ux⟩ ∧ Below wo.heap.size wo w') wr.drew := ⟨rA, rX, HB2.out.drew⟩
            refine wpAny_of_held (S := fun w' => RowAt w' bA (oA + n * 5) ⟨ky, ty, oy, vy, uy⟩ ∧ RowAt w' bP (oP + k * 5) ⟨kx, tx, ox, vx, ux⟩ ∧ Below wo.heap.size wo w') _ _ _ _ ?_
            clear rA rX
            refine wpAnyH_takeE (i := 0) (some 31) (v := ?_) rfl rfl (by as_aux_lemma => kernel_rfl) (by as_aux_lemma => kernel_rfl) (by as_aux_lemma => kernel_rfl) (fun _ _ _ h => h) (Or.inl ⟨by kernel_rfl, ?_⟩) hS ?_
            rotate_left
            · intro w hSw; obtain ⟨a0, a1, a2, a3, a4⟩ := hSw.1; obtain ⟨d0, d1, d2, d3, d4⟩ := hSw.2.1; dsimp only at a0 a1 a2 a3 a4 d0 d1 d2 d3 d4; go_simp
              first | done | with_reducible rfl
            refine wpAnyH_takeE (i := 1) (some 32) (v := ?_) rfl rfl (by as_aux_lemma => kernel_rfl) (by as_aux_lemma => kernel_rfl) (by as_aux_lemma => kernel_rfl) (fun _ _ _ h => h) (Or.inl ⟨by kernel_rfl, ?_⟩) hS ?_
            rotate_left
            · intro w hSw; obtain ⟨a0, a1, a2, a3, a4⟩ := hSw.1; obtain ⟨d0, d1, d2, d3, d4⟩ := hSw.2.1; dsimp only at a0 a1 a2 a3 a4 d0 d1 d2 d3 d4; go_simp
              first | done | with_reducible rfl
            refine wpAnyH_takeE (i := 2) (some 33) (v := ?_) rfl rfl (by as_aux_lemma => kernel_rfl) (by as_aux_lemma => kernel_rfl) (by as_aux_lemma => kernel_rfl) (fun _ _ _ h => h) (Or.inl ⟨by kernel_rfl, ?_⟩) hS ?_
            rotate_left
            · intro w hSw; obtain ⟨a0, a1, a2, a3, a4⟩ := hSw.1; obtain ⟨d0, d1, d2, d3, d4⟩ := hSw.2.1; dsimp only at a0 a1 a2 a3 a4 d0 d1 d2 d3 d4; go_simp
              first | done | with_reducible rfl
            refine wpAnyH_takeE (i := 3) (some 34) (v := ?_) rfl rfl (by as_aux_lemma => kernel_rfl) (by as_aux_lemma => kernel_rfl) (by as_aux_lemma => kernel_rfl) (fun _ _ _ h => h) (Or.inl ⟨by kernel_rfl, ?_⟩) hS ?_
            rotate_left
            · intro w hSw; obtain ⟨a0, a1, a2, a3, a4⟩ := hSw.1; obtain ⟨d0, d1, d2, d3, d4⟩ := hSw.2.1; dsimp only at a0 a1 a2 a3 a4 d0 d1 d2 d3 d4; go_simp
              first | done | with_reducible rfl
            refine wpAnyH_takeE (i := 4) (some 35) (v := ?_) rfl rfl (by as_aux_lemma => kernel_rfl) (by as_aux_lemma => kernel_rfl) (by as_aux_lemma => kernel_rfl) (fun _ _ _ h => h) (Or.inl ⟨by kernel_rfl, ?_⟩) hS ?_
            rotate_left
            · intro w hSw; obtain ⟨a0, a1, a2, a3, a4⟩ := hSw.1; obtain ⟨d0, d1, d2, d3, d4⟩ := hSw.2.1; dsimp only at a0 a1 a2 a3 a4 d0 d1 d2 d3 d4; go_simp
              first | done | with_reducible rfl
            refine wpAnyH_takeE (i := 5) (some 36) (v := ?_) rfl rfl (by as_aux_lemma => kernel_rfl) (by as_aux_lemma => kernel_rfl) (by as_aux_lemma => kernel_rfl) (fun _ _ _ h => h) (Or.inl ⟨by kernel_rfl, ?_⟩) hS ?_
            rotate_left
            · intro w hSw; obtain ⟨a0, a1, a2, a3, a4⟩ := hSw.1; obtain ⟨d0, d1, d2, d3, d4⟩ := hSw.2.1; dsimp only at a0 a1 a2 a3 a4 d0 d1 d2 d3 d4; go_simp
              first | done | with_reducible rfl
            refine wpAnyH_takeE (i := 6) (some 37) (v := ?_) rfl rfl (by as_aux_lemma => kernel_rfl) (by as_aux_lemma => kernel_rfl) (by as_aux_lemma => kernel_rfl) (fun _ _ _ h => h) (Or.inl ⟨by kernel_rfl, ?_⟩) hS ?_
            rotate_left
            · intro w hSw; obtain ⟨a0, a1, a2, a3, a4⟩ := hSw.1; obtain ⟨d0, d1, d2, d3, d4⟩ := hSw.2.1; dsimp only at a0 a1 a2 a3 a4 d0 d1 d2 d3 d4; go_simp
              first | done | with_reducible rfl
            refine wpAnyH_takeE (i := 7) (some 38) (v := ?_) rfl rfl (by as_aux_lemma => kernel_rfl) (by as_aux_lemma => kernel_rfl) (by as_aux_lemma => kernel_rfl) (fun _ _ _ h => h) (Or.inl ⟨by kernel_rfl, ?_⟩) hS ?_
            rotate_left
            · intro w hSw; obtain ⟨a0, a1, a2, a3, a4⟩ := hSw.1; obtain ⟨d0, d1, d2, d3, d4⟩ := hSw.2.1; dsimp only at a0 a1 a2 a3 a4 d0 d1 d2 d3 d4; go_simp
              first | done | with_reducible rfl
            refine wpAnyH_takeE (i := 8) (some 39) (v := ?_) rfl rfl (by as_aux_lemma => kernel_rfl) (by as_aux_lemma => kernel_rfl) (by as_aux_lemma => kernel_rfl) (fun _ _ _ h => h) (Or.inl ⟨by kernel_rfl, ?_⟩) hS ?_
            rotate_left
            · intro w hSw; obtain ⟨a0, a1, a2, a3, a4⟩ := hSw.1; obtain ⟨d0, d1, d2, d3, d4⟩ := hSw.2.1; dsimp only at a0 a1 a2 a3 a4 d0 d1 d2 d3 d4; go_simp
              first | done | with_reducible rfl
            refine wpAnyH_takeE (i := 9) (some 40) (v := ?_) rfl rfl (by as_aux_lemma => kernel_rfl) (by as_aux_lemma => kernel_rfl) (by as_aux_lemma => kernel_rfl) (fun _ _ _ h => h) (Or.inl ⟨by kernel_rfl, ?_⟩) hS ?_
            rotate_left
            · intro w hSw; obtain ⟨a0, a1, a2, a3, a4⟩ := hSw.1; obtain ⟨d0, d1, d2, d3, d4⟩ := hSw.2.1; dsimp only at a0 a1 a2 a3 a4 d0 d1 d2 d3 d4; go_simp
              first | done | with_reducible rfl
            refine wpAnyH_takeE (i := 10) (some 41) (v := ?_) rfl rfl (by as_aux_lemma => kernel_rfl) (by as_aux_lemma => kernel_rfl) (by as_aux_lemma => kernel_rfl) (fun _ _ _ h => h) (Or.inl ⟨by kernel_rfl, ?_⟩) hS ?_
            rotate_left
            · intro w hSw; obtain ⟨a0, a1, a2, a3, a4⟩ := hSw.1; obtain ⟨d0, d1, d2, d3, d4⟩ := hSw.2.1; dsimp only at a0 a1 a2 a3 a4 d0 d1 d2 d3 d4; go_simp
              first | done | with_reducible rfl
            refine wpAnyH_takeE (i := 11) (some 42) (v := ?_) rfl rfl (by as_aux_lemma => kernel_rfl) (by as_aux_lemma => kernel_rfl) (by as_aux_lemma => kernel_rfl) (fun _ _ _ h => h) (Or.inl ⟨by kernel_rfl, ?_⟩) hS ?_
            rotate_left
            · intro w hSw; obtain ⟨a0, a1, a2, a3, a4⟩ := hSw.1; obtain ⟨d0, d1, d2, d3, d4⟩ := hSw.2.1; dsimp only at a0 a1 a2 a3 a4 d0 d1 d2 d3 d4; go_simp
              first | done | with_reducible rfl
            refine wpAnyH_takeE (i := 12) (some 6) (v := ?_) rfl rfl (by as_aux_lemma => kernel_rfl) (by as_aux_lemma => kernel_rfl) (by as_aux_lemma => kernel_rfl) (fun _ _ _ h => h) (Or.inl ⟨by kernel_rfl, ?_⟩) hS ?_
            rotate_left
            · intro w hSw; obtain ⟨a0, a1, a2, a3, a4⟩ := hSw.1; obtain ⟨d0, d1, d2, d3, d4⟩ := hSw.2.1; dsimp only at a0 a1 a2 a3 a4 d0 d1 d2 d3 d4; go_simp
              first | done | with_reducible rfl
            have HB3 := Lib.hid hS.2.2
            refine wpAnyH_done (by kernel_rfl) ?_ _
            clear hS
            go_wp2
            go_roundw
            case rel => exact ⟨n + 1, by omega, by go_num, by rw [HS2.out], HB3⟩
            case measure => simp [intOf]; omega
        · have hnl : ¬ (n : Int) < (nA : Int) := by omega
          have hany : anyE lA n x = true := anyE_all HX.out.1 (by have := HNA.out; omega)
          rw [hany]
          clear hany
          have rX := HR.out.on HB2.out
          have HCk := Lib.hid (fun w => eCheck_any x w)
          rw [HX.out.2] at HCk
          have hck : checkEn x = 0 := HX.out.2
          have HQo := Lib.hid (HB.out.trans (HB2.out.mono HB.out.size))
          have HB2c := HB2
          clear HR HX HA hck HB HB2
          cases k with
          | zero =>
            obtain ⟨kx, tx, ox, vx, ux⟩ := x
            dsimp only at HCk
            go_wp2_with fail
            refine wp_region_any (by kernel_rfl) ?_
            change wpAny _ _ _ _ _ _ _ (World.drew _)
            simp only [Nat.zero_mul, Nat.add_zero] at rX
            have hS : (fun w' : World => RowAt w' bP oP ⟨kx, tx, ox, vx, ux⟩ ∧ Below w4.heap.size w4 w') wr.drew := ⟨rX, HQo.out.drew⟩
            refine wpAny_of_held (S := fun w' => RowAt w' bP oP ⟨kx, tx, ox, vx, ux⟩ ∧ Below w4.heap.size w4 w') _ _ _ _ ?_
            clear rX HQo
            refine wpAnyH_takeE (i := 0) (some 43) (v := ?_) rfl rfl (by as_aux_lemma => kernel_rfl) (by as_aux_lemma => kernel_rfl) (by as_aux_lemma => kernel_rfl) (fun _ _ _ h => h) (Or.inl ⟨by kernel_rfl, ?_⟩) hS ?_
            rotate_left
            · intro w hSw; obtain ⟨d0, d1, d2, d3, d4⟩ := hSw.1; dsimp only at d0 d1 d2 d3 d4; go_simp
              first | done | with_reducible rfl
            refine wpAnyH_takeE (i := 1) (some 44) (v := ?_) rfl rfl (by as_aux_lemma => kernel_rfl) (by as_aux_lemma => kernel_rfl) (by as_aux_lemma => kernel_rfl) (fun _ _ _ h => h) (Or.inl ⟨by kernel_rfl, ?_⟩) hS ?_
            rotate_left
            · intro w hSw; obtain ⟨d0, d1, d2, d3, d4⟩ := hSw.1; dsimp only at d0 d1 d2 d3 d4; go_simp
              first | done | with_reducible rfl
            refine wpAnyH_takeE (i := 2) (some 45) (v := ?_) rfl rfl (by as_aux_lemma => kernel_rfl) (by as_aux_lemma => kernel_rfl) (by as_aux_lemma => kernel_rfl) (fun _ _ _ h => h) (Or.inl ⟨by kernel_rfl, ?_⟩) hS ?_
            rotate_left
            · intro w hSw; obtain ⟨d0, d1, d2, d3, d4⟩ := hSw.1; dsimp only at d0 d1 d2 d3 d4; go_simp
              first | done | with_reducible rfl
            refine wpAnyH_takeE (i := 3) (some 46) (v := ?_) rfl rfl (by as_aux_lemma => kernel_rfl) (by as_aux_lemma => kernel_rfl) (by as_aux_lemma => kernel_rfl) (fun _ _ _ h => h) (Or.inl ⟨by kernel_rfl, ?_⟩) hS ?_
            rotate_left
            · intro w hSw; obtain ⟨d0, d1, d2, d3, d4⟩ := hSw.1; dsimp only at d0 d1 d2 d3 d4; go_simp
              first | done | with_reducible rfl
            refine wpAnyH_takeE (i := 4) (some 47) (v := ?_) rfl rfl (by as_aux_lemma => kernel_rfl) (by as_aux_lemma => kernel_rfl) (by as_aux_lemma => kernel_rfl) (fun _ _ _ h => h) (Or.inl ⟨by kernel_rfl, ?_⟩) hS ?_
            rotate_left
            · intro w hSw; obtain ⟨d0, d1, d2, d3, d4⟩ := hSw.1; dsimp only at d0 d1 d2 d3 d4; go_simp
              first | done | with_reducible rfl
            refine wpAnyH_takeE (i := 5) (some 48) (v := ?_) rfl rfl (by as_aux_lemma => kernel_rfl) (by as_aux_lemma => kernel_rfl) (by as_aux_lemma => kernel_rfl) (fun _ _ _ h => h) (Or.inl ⟨by kernel_rfl, ?_⟩) hS ?_
            rotate_left
            · intro w hSw; obtain ⟨d0, d1, d2, d3, d4⟩ := hSw.1; dsimp only at d0 d1 d2 d3 d4; go_simp
              first | done | with_reducible rfl
            refine wpAnyH_takeE (i := 6) (some 49) (v := ?_) rfl rfl (by as_aux_lemma => kernel_rfl) (by as_aux_lemma => kernel_rfl) (by as_aux_lemma => kernel_rfl) (fun _ _ _ h => h) (Or.inl ⟨by kernel_rfl, ?_⟩) hS ?_
            rotate_left
            · intro w hSw; obtain ⟨d0, d1, d2, d3, d4⟩ := hSw.1; dsimp only at d0 d1 d2 d3 d4; go_simp
              first | done | with_reducible rfl
            refine wpAnyH_ready (rs := [7]) (by as_aux_lemma => kernel_rfl) (by simp) ?_
            refine AllReadyH.cons rfl (fun K hK => ?_) AllReadyH.nil
            go_simp
            go_wp2_with (go_at_call 26; refine (HCk.out _).mono ?_; rintro e w9 ⟨rfl, q9⟩)
            refine hK.out _ _ ?_ (fun hS => ?_)
            · exact ⟨hS.1.on q9, hS.2.trans (q9.mono hS.2.size)⟩
            clear hK K
            refine wpAnyH_takeE (i := 8) (some 51) (v := ?_) rfl rfl (by as_aux_lemma => kernel_rfl) (by as_aux_lemma => kernel_rfl) (by as_aux_lemma => kernel_rfl) (fun _ _ _ h => h) (Or.inl ⟨by kernel_rfl, ?_⟩) hS ?_
            rotate_left
            · intro w hSw; obtain ⟨d0, d1, d2, d3, d4⟩ := hSw.1; dsimp only at d0 d1 d2 d3 d4; go_simp
              first | done | with_reducible rfl
            refine wpAnyH_takeE (i := 9) (some 52) (v := ?_) rfl rfl (by as_aux_lemma => kernel_rfl) (by as_aux_lemma => kernel_rfl) (by as_aux_lemma => kernel_rfl) (fun _ _ _ h => h) (Or.inl ⟨by kernel_rfl, ?_⟩) hS ?_
            rotate_left
            · intro w hSw; obtain ⟨d0, d1, d2, d3, d4⟩ := hSw.1; dsimp only at d0 d1 d2 d3 d4; go_simp
              first | done | with_reducible rfl
            refine wpAnyH_takeE (i := 10) (some 53) (v := ?_) rfl rfl (by as_aux_lemma => kernel_rfl) (by as_aux_lemma => kernel_rfl) (by as_aux_lemma => kernel_rfl) (fun _ _ _ h => h) (Or.inl ⟨by kernel_rfl, ?_⟩) hS ?_
            rotate_left
            · intro w hSw; obtain ⟨d0, d1, d2, d3, d4⟩ := hSw.1; dsimp only at d0 d1 d2 d3 d4; go_simp
              first | done | with_reducible rfl
            refine wpAnyH_takeE (i := 11) (some 54) (v := ?_) rfl rfl (by as_aux_lemma => kernel_rfl) (by as_aux_lemma => kernel_rfl) (by as_aux_lemma => kernel_rfl) (fun _ _ _ h => h) (Or.inl ⟨by kernel_rfl, ?_⟩) hS ?_
            rotate_left
            · intro w hSw; obtain ⟨d0, d1, d2, d3, d4⟩ := hSw.1; dsimp only at d0 d1 d2 d3 d4; go_simp
              first | done | with_reducible rfl
            refine wpAnyH_takeE (i := 12) (some 55) (v := ?_) rfl rfl (by as_aux_lemma => kernel_rfl) (by as_aux_lemma => kernel_rfl) (by as_aux_lemma => kernel_rfl) (fun _ _ _ h => h) (Or.inl ⟨by kernel_rfl, ?_⟩) hS ?_
            rotate_left
            · intro w hSw; obtain ⟨d0, d1, d2, d3, d4⟩ := hSw.1; dsimp only at d0 d1 d2 d3 d4; go_simp
              first | done | with_reducible rfl
            refine wpAnyH_takeE (i := 13) (some 56) (v := ?_) rfl rfl (by as_aux_lemma => kernel_rfl) (by as_aux_lemma => kernel_rfl) (by as_aux_lemma => kernel_rfl) (fun _ _ _ h => h) (Or.inl ⟨by kernel_rfl, ?_⟩) hS ?_
            rotate_left
            · intro w hSw; obtain ⟨d0, d1, d2, d3, d4⟩ := hSw.1; dsimp only at d0 d1 d2 d3 d4; go_simp
              first | done | with_reducible rfl
            refine wpAnyH_takeE (i := 14) (some 57) (v := undef) rfl rfl (by as_aux_lemma => kernel_rfl) (by as_aux_lemma => kernel_rfl) (by as_aux_lemma => kernel_rfl) (fun _ _ _ h => h) (Or.inr ⟨by kernel_rfl, rfl⟩) hS ?_
            refine wpAnyH_takeE (i := 15) (some 58) (v := undef) rfl rfl (by as_aux_lemma => kernel_rfl) (by as_aux_lemma => kernel_rfl) (by as_aux_lemma => kernel_rfl) (fun _ _ _ h => h) (Or.inr ⟨by kernel_rfl, rfl⟩) hS ?_
            refine wpAnyH_takeE (i := 16) (some 59) (v := undef) rfl rfl (by as_aux_lemma => kernel_rfl) (by as_aux_lemma => kernel_rfl) (by as_aux_lemma => kernel_rfl) (fun _ _ _ h => h) (Or.inr ⟨by kernel_rfl, rfl⟩) hS ?_
            refine wpAnyH_takeE (i := 17) (some 60) (v := undef) rfl rfl (by as_aux_lemma => kernel_rfl) (by as_aux_lemma => kernel_rfl) (by as_aux_lemma => kernel_rfl) (fun _ _ _ h => h) (Or.inr ⟨by kernel_rfl, rfl⟩) hS ?_
            refine wpAnyH_takeE (i := 18) (some 61) (v := undef) rfl rfl (by as_aux_lemma => kernel_rfl) (by as_aux_lemma => kernel_rfl) (by as_aux_lemma => kernel_rfl) (fun _ _ _ h => h) (Or.inr ⟨by kernel_rfl, rfl⟩) hS ?_
            refine wpAnyH_takeE (i := 19) (some 62) (v := undef) rfl rfl (by as_aux_lemma => kernel_rfl) (by as_aux_lemma => kernel_rfl) (by as_aux_lemma => kernel_rfl) (fun _ _ _ h => h) (Or.inr ⟨by kernel_rfl, rfl⟩) hS ?_
            refine wpAnyH_takeE (i := 20) (some 63) (v := undef) rfl rfl (by as_aux_lemma => kernel_rfl) (by as_aux_lemma => kernel_rfl) (by as_aux_lemma => kernel_rfl) (fun _ _ _ h => h) (Or.inr ⟨by kernel_rfl, rfl⟩) hS ?_
            refine wpAnyH_takeE (i := 21) (some 64) (v := undef) rfl rfl (by as_aux_lemma => kernel_rfl) (by as_aux_lemma => kernel_rfl) (by as_aux_lemma => kernel_rfl) (fun _ _ _ h => h) (Or.inr ⟨by kernel_rfl, rfl⟩) hS ?_
            refine wpAnyH_takeE (i := 22) (some 65) (v := undef) rfl rfl (by as_aux_lemma => kernel_rfl) (by as_aux_lemma => kernel_rfl) (by as_aux_lemma => kernel_rfl) (fun _ _ _ h => h) (Or.inr ⟨by kernel_rfl, rfl⟩) hS ?_
            refine wpAnyH_takeE (i := 23) (some 66) (v := undef) rfl rfl (by as_aux_lemma => kernel_rfl) (by as_aux_lemma => kernel_rfl) (by as_aux_lemma => kernel_rfl) (fun _ _ _ h => h) (Or.inr ⟨by kernel_rfl, rfl⟩) hS ?_
            refine wpAnyH_takeE (i := 24) (some 67) (v := undef) rfl rfl (by as_aux_lemma => kernel_rfl) (by as_aux_lemma => kernel_rfl) (by as_aux_lemma => kernel_rfl) (fun _ _ _ h => h) (Or.inr ⟨by kernel_rfl, rfl⟩) hS ?_
            refine wpAnyH_takeE (i := 25) (some 68) (v := undef) rfl rfl (by as_aux_lemma => kernel_rfl) (by as_aux_lemma => kernel_rfl) (by as_aux_lemma => kernel_rfl) (fun _ _ _ h => h) (Or.inr ⟨by kernel_rfl, rfl⟩) hS ?_
            refine wpAnyH_takeE (i := 26) (some 69) (v := ?_) rfl rfl (by as_aux_lemma => kernel_rfl) (by as_aux_lemma => kernel_rfl) (by as_aux_lemma => kernel_rfl) (fun _ _ _ h => h) (Or.inl ⟨by kernel_rfl, ?_⟩) hS ?_
            rotate_left
            · intro w hSw; obtain ⟨d0, d1, d2, d3, d4⟩ := hSw.1; dsimp only at d0 d1 d2 d3 d4; go_simp
              first | done | with_reducible rfl
            refine wpAnyH_takeE (i := 27) (some 70) (v := ?_) rfl rfl (by as_aux_lemma => kernel_rfl) (by as_aux_lemma => kernel_rfl) (by as_aux_lemma => kernel_rfl) (fun _ _ _ h => h) (Or.inl ⟨by kernel_rfl, ?_⟩) hS ?_
            rotate_left
            · intro w hSw; obtain ⟨d0, d1, d2, d3, d4⟩ := hSw.1; dsimp only at d0 d1 d2 d3 d4; go_simp
              first | done | with_reducible rfl
            have HB3 := Lib.hid hS.2
            refine wpAnyH_done (by kernel_rfl) ?_ _
            clear hS q9
            go_simp
            go_wp2
            go_roundw
            case rel => exact ⟨1, by omega, by go_num, HB3⟩
            case measure => simp [intOf]; omega
          | succ j =>
            obtain ⟨y, rY0, hyx⟩ := HPR.out j rfl
            have rY := rY0.on HB2c.out
            have hgeq : Op.bytesLess y.k.toList x.k.toList = true := by rw [ByteArray.toList_eq, ByteArray.toList_eq, lessE]; exact decide_eq_true hyx
            have hjn : (j : Int) < (nP : Int) := by omega
            have hwj : IntKind.i64.wrap (j : Int) = (j : Int) := by rw [IntKind.wrap_i64]; omega
            obtain ⟨kx, tx, ox, vx, ux⟩ := x
            dsimp only at HCk hgeq
            go_wp2_with fail
            refine wp_region_any (by kernel_rfl) ?_
            change wpAny _ _ _ _ _ _ _ (World.drew _)
            have hS : (fun w' : World => RowAt w' bP (oP + j * 5) y ∧ RowAt w' bP (oP + (j + 1) * 5) ⟨kx, tx, ox, vx, ux⟩ ∧ Below w4.heap.size w4 w') wr.drew := ⟨rY, rX, HQo.out.drew⟩
            refine wpAny_of_held (S := fun w' => RowAt w' bP (oP + j * 5) y ∧ RowAt w' bP (oP + (j + 1) * 5) ⟨kx, tx, ox, vx, ux⟩ ∧ Below w4.heap.size w4 w') _ _ _ _ ?_
            clear rX rY HQo
            refine wpAnyH_takeE (i := 0) (some 43) (v := ?_) rfl rfl (by as_aux_lemma => kernel_rfl) (by as_aux_lemma => kernel_rfl) (by as_aux_lemma => kernel_rfl) (fun _ _ _ h => h) (Or.inl ⟨by kernel_rfl, ?_⟩) hS ?_
            rotate_left
            · intro w hSw; obtain ⟨d0, d1, d2, d3, d4⟩ := hSw.2.1; dsimp only at d0 d1 d2 d3 d4; obtain ⟨a0, a1, a2, a3, a4⟩ := hSw.1; have hz : (0 : Int) < (j : Int) + 1 := (by omega); have hz1 : (0 : Int) ≤ (j : Int) + 1 := (by omega); have hz2 : (j : Int) + 1 < (nP : Int) := (by omega); go_simp
              first | done | with_reducible rfl
            refine wpAnyH_takeE (i := 1) (some 44) (v := ?_) rfl rfl (by as_aux_lemma => kernel_rfl) (by as_aux_lemma => kernel_rfl) (by as_aux_lemma => kernel_rfl) (fun _ _ _ h => h) (Or.inl ⟨by kernel_rfl, ?_⟩) hS ?_
            rotate_left
            · intro w hSw; obtain ⟨d0, d1, d2, d3, d4⟩ := hSw.2.1; dsimp only at d0 d1 d2 d3 d4; obtain ⟨a0, a1, a2, a3, a4⟩ := hSw.1; have hz : (0 : Int) < (j : Int) + 1 := (by omega); have hz1 : (0 : Int) ≤ (j : Int) + 1 := (by omega); have hz2 : (j : Int) + 1 < (nP : Int) := (by omega); go_simp
              first | done | with_reducible rfl
            refine wpAnyH_takeE (i := 2) (some 45) (v := ?_) rfl rfl (by as_aux_lemma => kernel_rfl) (by as_aux_lemma => kernel_rfl) (by as_aux_lemma => kernel_rfl) (fun _ _ _ h => h) (Or.inl ⟨by kernel_rfl, ?_⟩) hS ?_
            rotate_left
            · intro w hSw; obtain ⟨d0, d1, d2, d3, d4⟩ := hSw.2.1; dsimp only at d0 d1 d2 d3 d4; obtain ⟨a0, a1, a2, a3, a4⟩ := hSw.1; have hz : (0 : Int) < (j : Int) + 1 := (by omega); have hz1 : (0 : Int) ≤ (j : Int) + 1 := (by omega); have hz2 : (j : Int) + 1 < (nP : Int) := (by omega); go_simp
              first | done | with_reducible rfl
            refine wpAnyH_takeE (i := 3) (some 46) (v := ?_) rfl rfl (by as_aux_lemma => kernel_rfl) (by as_aux_lemma => kernel_rfl) (by as_aux_lemma => kernel_rfl) (fun _ _ _ h => h) (Or.inl ⟨by kernel_rfl, ?_⟩) hS ?_
            rotate_left
            · intro w hSw; obtain ⟨d0, d1, d2, d3, d4⟩ := hSw.2.1; dsimp only at d0 d1 d2 d3 d4; obtain ⟨a0, a1, a2, a3, a4⟩ := hSw.1; have hz : (0 : Int) < (j : Int) + 1 := (by omega); have hz1 : (0 : Int) ≤ (j : Int) + 1 := (by omega); have hz2 : (j : Int) + 1 < (nP : Int) := (by omega); go_simp
              first | done | with_reducible rfl
            refine wpAnyH_takeE (i := 4) (some 47) (v := ?_) rfl rfl (by as_aux_lemma => kernel_rfl) (by as_aux_lemma => kernel_rfl) (by as_aux_lemma => kernel_rfl) (fun _ _ _ h => h) (Or.inl ⟨by kernel_rfl, ?_⟩) hS ?_
            rotate_left
            · intro w hSw; obtain ⟨d0, d1, d2, d3, d4⟩ := hSw.2.1; dsimp only at d0 d1 d2 d3 d4; obtain ⟨a0, a1, a2, a3, a4⟩ := hSw.1; have hz : (0 : Int) < (j : Int) + 1 := (by omega); have hz1 : (0 : Int) ≤ (j : Int) + 1 := (by omega); have hz2 : (j : Int) + 1 < (nP : Int) := (by omega); go_simp
              first | done | with_reducible rfl
            refine wpAnyH_takeE (i := 5) (some 48) (v := ?_) rfl rfl (by as_aux_lemma => kernel_rfl) (by as_aux_lemma => kernel_rfl) (by as_aux_lemma => kernel_rfl) (fun _ _ _ h => h) (Or.inl ⟨by kernel_rfl, ?_⟩) hS ?_
            rotate_left
            · intro w hSw; obtain ⟨d0, d1, d2, d3, d4⟩ := hSw.2.1; dsimp only at d0 d1 d2 d3 d4; obtain ⟨a0, a1, a2, a3, a4⟩ := hSw.1; have hz : (0 : Int) < (j : Int) + 1 := (by omega); have hz1 : (0 : Int) ≤ (j : Int) + 1 := (by omega); have hz2 : (j : Int) + 1 < (nP : Int) := (by omega); go_simp
              first | done | with_reducible rfl
            refine wpAnyH_takeE (i := 6) (some 49) (v := ?_) rfl rfl (by as_aux_lemma => kernel_rfl) (by as_aux_lemma => kernel_rfl) (by as_aux_lemma => kernel_rfl) (fun _ _ _ h => h) (Or.inl ⟨by kernel_rfl, ?_⟩) hS ?_
            rotate_left
            · intro w hSw; obtain ⟨d0, d1, d2, d3, d4⟩ := hSw.2.1; dsimp only at d0 d1 d2 d3 d4; obtain ⟨a0, a1, a2, a3, a4⟩ := hSw.1; have hz : (0 : Int) < (j : Int) + 1 := (by omega); have hz1 : (0 : Int) ≤ (j : Int) + 1 := (by omega); have hz2 : (j : Int) + 1 < (nP : Int) := (by omega); go_simp
              first | done | with_reducible rfl
            refine wpAnyH_ready (rs := [7]) (by as_aux_lemma => kernel_rfl) (by simp) ?_
            refine AllReadyH.cons rfl (fun K hK => ?_) AllReadyH.nil
            go_simp
            go_wp2_with (go_at_call 26; refine (HCk.out _).mono ?_; rintro e w9 ⟨rfl, q9⟩)
            refine hK.out _ _ ?_ (fun hS => ?_)
            · exact ⟨hS.1.on q9, hS.2.1.on q9, hS.2.2.trans (q9.mono hS.2.2.size)⟩
            clear hK K
            refine wpAnyH_takeE (i := 8) (some 51) (v := ?_) rfl rfl (by as_aux_lemma => kernel_rfl) (by as_aux_lemma => kernel_rfl) (by as_aux_lemma => kernel_rfl) (fun _ _ _ h => h) (Or.inl ⟨by kernel_rfl, ?_⟩) hS ?_
            rotate_left
            · intro w hSw; obtain ⟨d0, d1, d2, d3, d4⟩ := hSw.2.1; dsimp only at d0 d1 d2 d3 d4; obtain ⟨a0, a1, a2, a3, a4⟩ := hSw.1; have hz : (0 : Int) < (j : Int) + 1 := (by omega); have hz1 : (0 : Int) ≤ (j : Int) + 1 := (by omega); have hz2 : (j : Int) + 1 < (nP : Int) := (by omega); go_simp
              first | done | with_reducible rfl
            refine wpAnyH_takeE (i := 9) (some 52) (v := ?_) rfl rfl (by as_aux_lemma => kernel_rfl) (by as_aux_lemma => kernel_rfl) (by as_aux_lemma => kernel_rfl) (fun _ _ _ h => h) (Or.inl ⟨by kernel_rfl, ?_⟩) hS ?_
            rotate_left
            · intro w hSw; obtain ⟨d0, d1, d2, d3, d4⟩ := hSw.2.1; dsimp only at d0 d1 d2 d3 d4; obtain ⟨a0, a1, a2, a3, a4⟩ := hSw.1; have hz : (0 : Int) < (j : Int) + 1 := (by omega); have hz1 : (0 : Int) ≤ (j : Int) + 1 := (by omega); have hz2 : (j : Int) + 1 < (nP : Int) := (by omega); go_simp
              first | done | with_reducible rfl
            refine wpAnyH_takeE (i := 10) (some 53) (v := ?_) rfl rfl (by as_aux_lemma => kernel_rfl) (by as_aux_lemma => kernel_rfl) (by as_aux_lemma => kernel_rfl) (fun _ _ _ h => h) (Or.inl ⟨by kernel_rfl, ?_⟩) hS ?_
            rotate_left
            · intro w hSw; obtain ⟨d0, d1, d2, d3, d4⟩ := hSw.2.1; dsimp only at d0 d1 d2 d3 d4; obtain ⟨a0, a1, a2, a3, a4⟩ := hSw.1; have hz : (0 : Int) < (j : Int) + 1 := (by omega); have hz1 : (0 : Int) ≤ (j : Int) + 1 := (by omega); have hz2 : (j : Int) + 1 < (nP : Int) := (by omega); go_simp
              first | done | with_reducible rfl
            refine wpAnyH_takeE (i := 11) (some 54) (v := ?_) rfl rfl (by as_aux_lemma => kernel_rfl) (by as_aux_lemma => kernel_rfl) (by as_aux_lemma => kernel_rfl) (fun _ _ _ h => h) (Or.inl ⟨by kernel_rfl, ?_⟩) hS ?_
            rotate_left
            · intro w hSw; obtain ⟨d0, d1, d2, d3, d4⟩ := hSw.2.1; dsimp only at d0 d1 d2 d3 d4; obtain ⟨a0, a1, a2, a3, a4⟩ := hSw.1; have hz : (0 : Int) < (j : Int) + 1 := (by omega); have hz1 : (0 : Int) ≤ (j : Int) + 1 := (by omega); have hz2 : (j : Int) + 1 < (nP : Int) := (by omega); go_simp
              first | done | with_reducible rfl
            refine wpAnyH_takeE (i := 12) (some 55) (v := ?_) rfl rfl (by as_aux_lemma => kernel_rfl) (by as_aux_lemma => kernel_rfl) (by as_aux_lemma => kernel_rfl) (fun _ _ _ h => h) (Or.inl ⟨by kernel_rfl, ?_⟩) hS ?_
            rotate_left
            · intro w hSw; obtain ⟨d0, d1, d2, d3, d4⟩ := hSw.2.1; dsimp only at d0 d1 d2 d3 d4; obtain ⟨a0, a1, a2, a3, a4⟩ := hSw.1; have hz : (0 : Int) < (j : Int) + 1 := (by omega); have hz1 : (0 : Int) ≤ (j : Int) + 1 := (by omega); have hz2 : (j : Int) + 1 < (nP : Int) := (by omega); go_simp
              first | done | with_reducible rfl
            refine wpAnyH_takeE (i := 13) (some 56) (v := ?_) rfl rfl (by as_aux_lemma => kernel_rfl) (by as_aux_lemma => kernel_rfl) (by as_aux_lemma => kernel_rfl) (fun _ _ _ h => h) (Or.inl ⟨by kernel_rfl, ?_⟩) hS ?_
            rotate_left
            · intro w hSw; obtain ⟨d0, d1, d2, d3, d4⟩ := hSw.2.1; dsimp only at d0 d1 d2 d3 d4; obtain ⟨a0, a1, a2, a3, a4⟩ := hSw.1; have hz : (0 : Int) < (j : Int) + 1 := (by omega); have hz1 : (0 : Int) ≤ (j : Int) + 1 := (by omega); have hz2 : (j : Int) + 1 < (nP : Int) := (by omega); go_simp
              first | done | with_reducible rfl
            refine wpAnyH_takeE (i := 14) (some 57) (v := ?_) rfl rfl (by as_aux_lemma => kernel_rfl) (by as_aux_lemma => kernel_rfl) (by as_aux_lemma => kernel_rfl) (fun _ _ _ h => h) (Or.inl ⟨by kernel_rfl, ?_⟩) hS ?_
            rotate_left
            · intro w hSw; obtain ⟨d0, d1, d2, d3, d4⟩ := hSw.2.1; dsimp only at d0 d1 d2 d3 d4; obtain ⟨a0, a1, a2, a3, a4⟩ := hSw.1; have hz : (0 : Int) < (j : Int) + 1 := (by omega); have hz1 : (0 : Int) ≤ (j : Int) + 1 := (by omega); have hz2 : (j : Int) + 1 < (nP : Int) := (by omega); go_simp
              first | done | with_reducible rfl
            refine wpAnyH_takeE (i := 15) (some 58) (v := ?_) rfl rfl (by as_aux_lemma => kernel_rfl) (by as_aux_lemma => kernel_rfl) (by as_aux_lemma => kernel_rfl) (fun _ _ _ h => h) (Or.inl ⟨by kernel_rfl, ?_⟩) hS ?_
            rotate_left
            · intro w hSw; obtain ⟨d0, d1, d2, d3, d4⟩ := hSw.2.1; dsimp only at d0 d1 d2 d3 d4; obtain ⟨a0, a1, a2, a3, a4⟩ := hSw.1; have hz : (0 : Int) < (j : Int) + 1 := (by omega); have hz1 : (0 : Int) ≤ (j : Int) + 1 := (by omega); have hz2 : (j : Int) + 1 < (nP : Int) := (by omega); go_simp
              first | done | with_reducible rfl
            refine wpAnyH_takeE (i := 16) (some 59) (v := ?_) rfl rfl (by as_aux_lemma => kernel_rfl) (by as_aux_lemma => kernel_rfl) (by as_aux_lemma => kernel_rfl) (fun _ _ _ h => h) (Or.inl ⟨by kernel_rfl, ?_⟩) hS ?_
            rotate_left
            · intro w hSw; obtain ⟨d0, d1, d2, d3, d4⟩ := hSw.2.1; dsimp only at d0 d1 d2 d3 d4; obtain ⟨a0, a1, a2, a3, a4⟩ := hSw.1; have hz : (0 : Int) < (j : Int) + 1 := (by omega); have hz1 : (0 : Int) ≤ (j : Int) + 1 := (by omega); have hz2 : (j : Int) + 1 < (nP : Int) := (by omega); go_simp
              first | done | with_reducible rfl
            refine wpAnyH_takeE (i := 17) (some 60) (v := ?_) rfl rfl (by as_aux_lemma => kernel_rfl) (by as_aux_lemma => kernel_rfl) (by as_aux_lemma => kernel_rfl) (fun _ _ _ h => h) (Or.inl ⟨by kernel_rfl, ?_⟩) hS ?_
            rotate_left
            · intro w hSw; obtain ⟨d0, d1, d2, d3, d4⟩ := hSw.2.1; dsimp only at d0 d1 d2 d3 d4; obtain ⟨a0, a1, a2, a3, a4⟩ := hSw.1; have hz : (0 : Int) < (j : Int) + 1 := (by omega); have hz1 : (0 : Int) ≤ (j : Int) + 1 := (by omega); have hz2 : (j : Int) + 1 < (nP : Int) := (by omega); go_simp
              first | done | with_reducible rfl
            refine wpAnyH_takeE (i := 18) (some 61) (v := ?_) rfl rfl (by as_aux_lemma => kernel_rfl) (by as_aux_lemma => kernel_rfl) (by as_aux_lemma => kernel_rfl) (fun _ _ _ h => h) (Or.inl ⟨by kernel_rfl, ?_⟩) hS ?_
            rotate_left
            · intro w hSw; obtain ⟨d0, d1, d2, d3, d4⟩ := hSw.2.1; dsimp only at d0 d1 d2 d3 d4; obtain ⟨a0, a1, a2, a3, a4⟩ := hSw.1; have hz : (0 : Int) < (j : Int) + 1 := (by omega); have hz1 : (0 : Int) ≤ (j : Int) + 1 := (by omega); have hz2 : (j : Int) + 1 < (nP : Int) := (by omega); go_simp
              first | done | with_reducible rfl
            refine wpAnyH_takeE (i := 19) (some 62) (v := ?_) rfl rfl (by as_aux_lemma => kernel_rfl) (by as_aux_lemma => kernel_rfl) (by as_aux_lemma => kernel_rfl) (fun _ _ _ h => h) (Or.inl ⟨by kernel_rfl, ?_⟩) hS ?_
            rotate_left
            · intro w hSw; obtain ⟨d0, d1, d2, d3, d4⟩ := hSw.2.1; dsimp only at d0 d1 d2 d3 d4; obtain ⟨a0, a1, a2, a3, a4⟩ := hSw.1; have hz : (0 : Int) < (j : Int) + 1 := (by omega); have hz1 : (0 : Int) ≤ (j : Int) + 1 := (by omega); have hz2 : (j : Int) + 1 < (nP : Int) := (by omega); go_simp
              first | done | with_reducible rfl
            refine wpAnyH_takeE (i := 20) (some 63) (v := ?_) rfl rfl (by as_aux_lemma => kernel_rfl) (by as_aux_lemma => kernel_rfl) (by as_aux_lemma => kernel_rfl) (fun _ _ _ h => h) (Or.inl ⟨by kernel_rfl, ?_⟩) hS ?_
            rotate_left
            · intro w hSw; obtain ⟨d0, d1, d2, d3, d4⟩ := hSw.2.1; dsimp only at d0 d1 d2 d3 d4; obtain ⟨a0, a1, a2, a3, a4⟩ := hSw.1; have hz : (0 : Int) < (j : Int) + 1 := (by omega); have hz1 : (0 : Int) ≤ (j : Int) + 1 := (by omega); have hz2 : (j : Int) + 1 < (nP : Int) := (by omega); go_simp
              first | done | with_reducible rfl
            refine wpAnyH_takeE (i := 21) (some 64) (v := ?_) rfl rfl (by as_aux_lemma => kernel_rfl) (by as_aux_lemma => kernel_rfl) (by as_aux_lemma => kernel_rfl) (fun _ _ _ h => h) (Or.inl ⟨by kernel_rfl, ?_⟩) hS ?_
            rotate_left
            · intro w hSw; obtain ⟨d0, d1, d2, d3, d4⟩ := hSw.2.1; dsimp only at d0 d1 d2 d3 d4; obtain ⟨a0, a1, a2, a3, a4⟩ := hSw.1; have hz : (0 : Int) < (j : Int) + 1 := (by omega); have hz1 : (0 : Int) ≤ (j : Int) + 1 := (by omega); have hz2 : (j : Int) + 1 < (nP : Int) := (by omega); go_simp
              first | done | with_reducible rfl
            refine wpAnyH_takeE (i := 22) (some 65) (v := ?_) rfl rfl (by as_aux_lemma => kernel_rfl) (by as_aux_lemma => kernel_rfl) (by as_aux_lemma => kernel_rfl) (fun _ _ _ h => h) (Or.inl ⟨by kernel_rfl, ?_⟩) hS ?_
            rotate_left
            · intro w hSw; obtain ⟨d0, d1, d2, d3, d4⟩ := hSw.2.1; dsimp only at d0 d1 d2 d3 d4; obtain ⟨a0, a1, a2, a3, a4⟩ := hSw.1; have hz : (0 : Int) < (j : Int) + 1 := (by omega); have hz1 : (0 : Int) ≤ (j : Int) + 1 := (by omega); have hz2 : (j : Int) + 1 < (nP : Int) := (by omega); go_simp
              first | done | with_reducible rfl
            refine wpAnyH_takeE (i := 23) (some 66) (v := ?_) rfl rfl (by as_aux_lemma => kernel_rfl) (by as_aux_lemma => kernel_rfl) (by as_aux_lemma => kernel_rfl) (fun _ _ _ h => h) (Or.inl ⟨by kernel_rfl, ?_⟩) hS ?_
            rotate_left
            · intro w hSw; obtain ⟨d0, d1, d2, d3, d4⟩ := hSw.2.1; dsimp only at d0 d1 d2 d3 d4; obtain ⟨a0, a1, a2, a3, a4⟩ := hSw.1; have hz : (0 : Int) < (j : Int) + 1 := (by omega); have hz1 : (0 : Int) ≤ (j : Int) + 1 := (by omega); have hz2 : (j : Int) + 1 < (nP : Int) := (by omega); go_simp
              first | done | with_reducible rfl
            refine wpAnyH_takeE (i := 24) (some 67) (v := ?_) rfl rfl (by as_aux_lemma => kernel_rfl) (by as_aux_lemma => kernel_rfl) (by as_aux_lemma => kernel_rfl) (fun _ _ _ h => h) (Or.inl ⟨by kernel_rfl, ?_⟩) hS ?_
            rotate_left
            · intro w hSw; obtain ⟨d0, d1, d2, d3, d4⟩ := hSw.2.1; dsimp only at d0 d1 d2 d3 d4; obtain ⟨a0, a1, a2, a3, a4⟩ := hSw.1; have hz : (0 : Int) < (j : Int) + 1 := (by omega); have hz1 : (0 : Int) ≤ (j : Int) + 1 := (by omega); have hz2 : (j : Int) + 1 < (nP : Int) := (by omega); go_simp
              first | done | with_reducible rfl
            refine wpAnyH_takeE (i := 25) (some 68) (v := ?_) rfl rfl (by as_aux_lemma => kernel_rfl) (by as_aux_lemma => kernel_rfl) (by as_aux_lemma => kernel_rfl) (fun _ _ _ h => h) (Or.inl ⟨by kernel_rfl, ?_⟩) hS ?_
            rotate_left
            · intro w hSw; obtain ⟨d0, d1, d2, d3, d4⟩ := hSw.2.1; dsimp only at d0 d1 d2 d3 d4; obtain ⟨a0, a1, a2, a3, a4⟩ := hSw.1; have hz : (0 : Int) < (j : Int) + 1 := (by omega); have hz1 : (0 : Int) ≤ (j : Int) + 1 := (by omega); have hz2 : (j : Int) + 1 < (nP : Int) := (by omega); go_simp
              first | done | with_reducible rfl
            refine wpAnyH_takeE (i := 26) (some 69) (v := ?_) rfl rfl (by as_aux_lemma => kernel_rfl) (by as_aux_lemma => kernel_rfl) (by as_aux_lemma => kernel_rfl) (fun _ _ _ h => h) (Or.inl ⟨by kernel_rfl, ?_⟩) hS ?_
            rotate_left
            · intro w hSw; obtain ⟨d0, d1, d2, d3, d4⟩ := hSw.2.1; dsimp only at d0 d1 d2 d3 d4; obtain ⟨a0, a1, a2, a3, a4⟩ := hSw.1; have hz : (0 : Int) < (j : Int) + 1 := (by omega); have hz1 : (0 : Int) ≤ (j : Int) + 1 := (by omega); have hz2 : (j : Int) + 1 < (nP : Int) := (by omega); go_simp
              first | done | with_reducible rfl
            refine wpAnyH_takeE (i := 27) (some 70) (v := ?_) rfl rfl (by as_aux_lemma => kernel_rfl) (by as_aux_lemma => kernel_rfl) (by as_aux_lemma => kernel_rfl) (fun _ _ _ h => h) (Or.inl ⟨by kernel_rfl, ?_⟩) hS ?_
            rotate_left
            · intro w hSw; obtain ⟨d0, d1, d2, d3, d4⟩ := hSw.2.1; dsimp only at d0 d1 d2 d3 d4; obtain ⟨a0, a1, a2, a3, a4⟩ := hSw.1; have hz : (0 : Int) < (j : Int) + 1 := (by omega); have hz1 : (0 : Int) ≤ (j : Int) + 1 := (by omega); have hz2 : (j : Int) + 1 < (nP : Int) := (by omega); go_simp
              first | done | with_reducible rfl
            have HB3 := Lib.hid hS.2.2
            refine wpAnyH_done (by kernel_rfl) ?_ _
            clear hS q9 hwj hgeq hjn
            go_simp
            go_wp2
            go_roundw
            case rel => exact ⟨j + 1 + 1, by omega, by go_num, HB3⟩
            case measure => simp [intOf]; omega
    · have hkl : ¬ (k : Int) < (nP : Int) := by omega
      obtain ⟨w5, rfl⟩ : ∃ z, z = wr := ⟨_, rfl⟩
      go_wp2
      go_loopw [8] (fun i wr => ∃ (k : Nat), k ≤ nA ∧ i = .int .i64 k ∧ Hid (Below w4.heap.size w4 wr)) (fun i _ => nA - (intOf i).toNat)
      case atStart => exact ⟨0, Nat.zero_le _, rfl, HB⟩
      case round =>
        clear HB
        obtain ⟨n, hn, rfl, HB2⟩ := hrel
        by_cases hln : n < nA
        · have hnl : (n : Int) < (nA : Int) := by omega
          have hnx : n < lA.length := by have := HNA.out; omega
          obtain ⟨m0, x0, x1, q0⟩ := HS5.out
          obtain ⟨bA, oA, rfl, rA⟩ := (x0.on HB2.out).row n hnx
          have h2 := m0.on HB2.out
          have hxm : lA[n] ∈ lA := List.getElem_mem hnx
          have HG := Lib.hid (cGet_any sb2 bm2 X lA[n].k wr h2 (HF.out _ hxm))
          have hdom : checkEn lA[n] = 0 → (gotC X lA[n].key).isSome = true ∧ aboveE lA[n] (getC X lA[n].key) = false := fun hc => by
            obtain ⟨z, hz, ez, az⟩ := HBest.out.2.2 _ ⟨hxm, hc⟩
            have eg : gotC X lA[n].key = some z := by rw [← ez]; exact gotC_some HBest.out.1 hz
            unfold getC
            rw [eg]
            exact ⟨rfl, az⟩
          change Hid (Calls _ _ _ _ fun e w' => e = .returned (.tuple #[.agg #[.string (getC X lA[n].key).k, .int .i64 (getC X lA[n].key).t, .int .u16 (getC X lA[n].key).o, .string (getC X lA[n].key).v, .int .i64 (getC X lA[n].key).u], .bool (gotC X lA[n].key).isSome]) ∧ Below wr.heap.size wr w') at HG
          clear m0 x0 x1 q0 h2 hxm
          have HCk := Lib.hid (fun w => eCheck_any lA[n] w)
          have HAb := Lib.hid (fun w => eAbove_any lA[n] (getC X lA[n].key) w)
          generalize (gotC X lA[n].key).isSome = is at *
          generalize getC X lA[n].key = g at *
          generalize lA[n] = x at *
          clear hnx
          have rA0 := rA
          obtain ⟨kx, tx, ox, vx, ux⟩ := x
          obtain ⟨kg, tg, og, vg, ug⟩ := g
          obtain ⟨c0, c1, c2, c3, c4⟩ := rA
          dsimp only at HG HCk HAb c0 c1 c2 c3 c4
          have HRA := Lib.hid rA0
          clear rA0
          have HDm := Lib.hid hdom
          clear hdom
          go_wp2_with (go_at_call 18; refine HG.out.mono ?_; rintro e w6 ⟨rfl, q6⟩; refine Hid.out ?_)
          refine Lib.hid ?_
          have d7 := (Below.refl w6.heap.size w6).alloc (Nat.le_refl _) (.cells #[.string kg, .int .i64 tg, .int .u16 og, .string vg, .int .i64 ug] 39)
          have z7 := EBlk.new w6 ⟨kg, tg, og, vg, ug⟩
          have q7 := q6.trans (d7.mono q6.size)
          have HZ := Lib.hid (And.intro (HRA.out.on q7) (And.intro z7 (HB2.out.trans (q7.mono HB2.out.size))))
          clear d7 z7 q7 q6 c0 c1 c2 c3 c4 HG HRA HB2
          go_wp2_with fail
          obtain ⟨rA, zg, q7⟩ := HZ.out
          clear HZ
          generalize hw7 : w6.alloc (.cells #[.string kg, .int .i64 tg, .int .u16 og, .string vg, .int .i64 ug] 39) = w7 at *
          clear hw7
          generalize w6.heap.size = b9 at *
          by_cases hc0 : checkEn ⟨kx, tx, ox, vx, ux⟩ = 0
          · skip
            obtain ⟨rfl, hab⟩ := HDm.out hc0
            rw [hc0] at HCk
            rw [hab] at HAb
            clear HDm
            refine wp_region_any (by kernel_rfl) ?_
            change wpAny _ _ _ _ _ _ _ (World.drew _)
            have hS : (fun w' : World => RowAt w' bA (oA + n * 5) ⟨kx, tx, ox, vx, ux⟩ ∧ EBlk w' b9 ⟨kg, tg, og, vg, ug⟩ ∧ Below w4.heap.size w4 w') w7.drew := ⟨rA, zg, q7.drew⟩
            refine wpAny_of_held (S := fun w' => RowAt w' bA (oA + n * 5) ⟨kx, tx, ox, vx, ux⟩ ∧ EBlk w' b9 ⟨kg, tg, og, vg, ug⟩ ∧ Below w4.heap.size w4 w') _ _ _ _ ?_
            clear rA zg q7
            refine wpAnyH_takeE (i := 0) (some 87) (v := ?_) rfl rfl (by as_aux_lemma => kernel_rfl) (by as_aux_lemma => kernel_rfl) (by as_aux_lemma => kernel_rfl) (fun _ _ _ h => h) (Or.inl ⟨by kernel_rfl, ?_⟩) hS ?_
            rotate_left
            · intro w hSw; obtain ⟨d0, d1, d2, d3, d4⟩ := hSw.1; have e0 := hSw.2.1.c0; have e1 := hSw.2.1.c1; have e2 := hSw.2.1.c2; have e3 := hSw.2.1.c3; have e4 := hSw.2.1.c4; dsimp only at d0 d1 d2 d3 d4 e0 e1 e2 e3 e4; go_simp
              first | done | with_reducible rfl
            refine wpAnyH_takeE (i := 1) (some 88) (v := ?_) rfl rfl (by as_aux_lemma => kernel_rfl) (by as_aux_lemma => kernel_rfl) (by as_aux_lemma => kernel_rfl) (fun _ _ _ h => h) (Or.inl ⟨by kernel_rfl, ?_⟩) hS ?_
            rotate_left
            · intro w hSw; obtain ⟨d0, d1, d2, d3, d4⟩ := hSw.1; have e0 := hSw.2.1.c0; have e1 := hSw.2.1.c1; have e2 := hSw.2.1.c2; have e3 := hSw.2.1.c3; have e4 := hSw.2.1.c4; dsimp only at d0 d1 d2 d3 d4 e0 e1 e2 e3 e4; go_simp
              first | done | with_reducible rfl
            refine wpAnyH_takeE (i := 2) (some 89) (v := ?_) rfl rfl (by as_aux_lemma => kernel_rfl) (by as_aux_lemma => kernel_rfl) (by as_aux_lemma => kernel_rfl) (fun _ _ _ h => h) (Or.inl ⟨by kernel_rfl, ?_⟩) hS ?_
            rotate_left
            · intro w hSw; obtain ⟨d0, d1, d2, d3, d4⟩ := hSw.1; have e0 := hSw.2.1.c0; have e1 := hSw.2.1.c1; have e2 := hSw.2.1.c2; have e3 := hSw.2.1.c3; have e4 := hSw.2.1.c4; dsimp only at d0 d1 d2 d3 d4 e0 e1 e2 e3 e4; go_simp
              first | done | with_reducible rfl
            refine wpAnyH_takeE (i := 3) (some 90) (v := ?_) rfl rfl (by as_aux_lemma => kernel_rfl) (by as_aux_lemma => kernel_rfl) (by as_aux_lemma => kernel_rfl) (fun _ _ _ h => h) (Or.inl ⟨by kernel_rfl, ?_⟩) hS ?_
            rotate_left
            · intro w hSw; obtain ⟨d0, d1, d2, d3, d4⟩ := hSw.1; have e0 := hSw.2.1.c0; have e1 := hSw.2.1.c1; have e2 := hSw.2.1.c2; have e3 := hSw.2.1.c3; have e4 := hSw.2.1.c4; dsimp only at d0 d1 d2 d3 d4 e0 e1 e2 e3 e4; go_simp
              first | done | with_reducible rfl
            refine wpAnyH_ready (rs := [4]) (by as_aux_lemma => kernel_rfl) (by simp) ?_
            refine AllReadyH.cons rfl (fun K hK => ?_) AllReadyH.nil
            go_simp
            go_wp2_with (go_at_call 26; refine (HCk.out _).mono ?_; rintro e w9 ⟨rfl, q9⟩)
            refine hK.out _ _ ?_ (fun hS => ?_)
            · exact ⟨hS.1.on q9, hS.2.1.on q9, hS.2.2.trans (q9.mono hS.2.2.size)⟩
            clear hK K
            refine wpAnyH_takeE (i := 5) (some 92) (v := ?_) rfl rfl (by as_aux_lemma => kernel_rfl) (by as_aux_lemma => kernel_rfl) (by as_aux_lemma => kernel_rfl) (fun _ _ _ h => h) (Or.inl ⟨by kernel_rfl, ?_⟩) hS ?_
            rotate_left
            · intro w hSw; obtain ⟨d0, d1, d2, d3, d4⟩ := hSw.1; have e0 := hSw.2.1.c0; have e1 := hSw.2.1.c1; have e2 := hSw.2.1.c2; have e3 := hSw.2.1.c3; have e4 := hSw.2.1.c4; dsimp only at d0 d1 d2 d3 d4 e0 e1 e2 e3 e4; go_simp
              first | done | with_reducible rfl
            refine wpAnyH_takeE (i := 6) (some 93) (v := ?_) rfl rfl (by as_aux_lemma => kernel_rfl) (by as_aux_lemma => kernel_rfl) (by as_aux_lemma => kernel_rfl) (fun _ _ _ h => h) (Or.inl ⟨by kernel_rfl, ?_⟩) hS ?_
            rotate_left
            · intro w hSw; obtain ⟨d0, d1, d2, d3, d4⟩ := hSw.1; have e0 := hSw.2.1.c0; have e1 := hSw.2.1.c1; have e2 := hSw.2.1.c2; have e3 := hSw.2.1.c3; have e4 := hSw.2.1.c4; dsimp only at d0 d1 d2 d3 d4 e0 e1 e2 e3 e4; go_simp
              first | done | with_reducible rfl
            refine wpAnyH_takeE (i := 7) (some 94) (v := ?_) rfl rfl (by as_aux_lemma => kernel_rfl) (by as_aux_lemma => kernel_rfl) (by as_aux_lemma => kernel_rfl) (fun _ _ _ h => h) (Or.inl ⟨by kernel_rfl, ?_⟩) hS ?_
            rotate_left
            · intro w hSw; obtain ⟨d0, d1, d2, d3, d4⟩ := hSw.1; have e0 := hSw.2.1.c0; have e1 := hSw.2.1.c1; have e2 := hSw.2.1.c2; have e3 := hSw.2.1.c3; have e4 := hSw.2.1.c4; dsimp only at d0 d1 d2 d3 d4 e0 e1 e2 e3 e4; go_simp
              first | done | with_reducible rfl
            refine wpAnyH_takeE (i := 8) (some 95) (v := ?_) rfl rfl (by as_aux_lemma => kernel_rfl) (by as_aux_lemma => kernel_rfl) (by as_aux_lemma => kernel_rfl) (fun _ _ _ h => h) (Or.inl ⟨by kernel_rfl, ?_⟩) hS ?_
            rotate_left
            · intro w hSw; obtain ⟨d0, d1, d2, d3, d4⟩ := hSw.1; have e0 := hSw.2.1.c0; have e1 := hSw.2.1.c1; have e2 := hSw.2.1.c2; have e3 := hSw.2.1.c3; have e4 := hSw.2.1.c4; dsimp only at d0 d1 d2 d3 d4 e0 e1 e2 e3 e4; go_simp
              first | done | with_reducible rfl
            refine wpAnyH_takeE (i := 9) (some 96) (v := ?_) rfl rfl (by as_aux_lemma => kernel_rfl) (by as_aux_lemma => kernel_rfl) (by as_aux_lemma => kernel_rfl) (fun _ _ _ h => h) (Or.inl ⟨by kernel_rfl, ?_⟩) hS ?_
            rotate_left
            · intro w hSw; obtain ⟨d0, d1, d2, d3, d4⟩ := hSw.1; have e0 := hSw.2.1.c0; have e1 := hSw.2.1.c1; have e2 := hSw.2.1.c2; have e3 := hSw.2.1.c3; have e4 := hSw.2.1.c4; dsimp only at d0 d1 d2 d3 d4 e0 e1 e2 e3 e4; go_simp
              first | done | with_reducible rfl
            refine wpAnyH_takeE (i := 10) (some 97) (v := ?_) rfl rfl (by as_aux_lemma => kernel_rfl) (by as_aux_lemma => kernel_rfl) (by as_aux_lemma => kernel_rfl) (fun _ _ _ h => h) (Or.inl ⟨by kernel_rfl, ?_⟩) hS ?_
            rotate_left
            · intro w hSw; obtain ⟨d0, d1, d2, d3, d4⟩ := hSw.1; have e0 := hSw.2.1.c0; have e1 := hSw.2.1.c1; have e2 := hSw.2.1.c2; have e3 := hSw.2.1.c3; have e4 := hSw.2.1.c4; dsimp only at d0 d1 d2 d3 d4 e0 e1 e2 e3 e4; go_simp
              first | done | with_reducible rfl
            refine wpAnyH_takeE (i := 11) (some 98) (v := ?_) rfl rfl (by as_aux_lemma => kernel_rfl) (by as_aux_lemma => kernel_rfl) (by as_aux_lemma => kernel_rfl) (fun _ _ _ h => h) (Or.inl ⟨by kernel_rfl, ?_⟩) hS ?_
            rotate_left
            · intro w hSw; obtain ⟨d0, d1, d2, d3, d4⟩ := hSw.1; have e0 := hSw.2.1.c0; have e1 := hSw.2.1.c1; have e2 := hSw.2.1.c2; have e3 := hSw.2.1.c3; have e4 := hSw.2.1.c4; dsimp only at d0 d1 d2 d3 d4 e0 e1 e2 e3 e4; go_simp
              first | done | with_reducible rfl
            refine wpAnyH_takeE (i := 12) (some 99) (v := ?_) rfl rfl (by as_aux_lemma => kernel_rfl) (by as_aux_lemma => kernel_rfl) (by as_aux_lemma => kernel_rfl) (fun _ _ _ h => h) (Or.inl ⟨by kernel_rfl, ?_⟩) hS ?_
            rotate_left
            · intro w hSw; obtain ⟨d0, d1, d2, d3, d4⟩ := hSw.1; have e0 := hSw.2.1.c0; have e1 := hSw.2.1.c1; have e2 := hSw.2.1.c2; have e3 := hSw.2.1.c3; have e4 := hSw.2.1.c4; dsimp only at d0 d1 d2 d3 d4 e0 e1 e2 e3 e4; go_simp
              first | done | with_reducible rfl
            refine wpAnyH_takeE (i := 13) (some 100) (v := ?_) rfl rfl (by as_aux_lemma => kernel_rfl) (by as_aux_lemma => kernel_rfl) (by as_aux_lemma => kernel_rfl) (fun _ _ _ h => h) (Or.inl ⟨by kernel_rfl, ?_⟩) hS ?_
            rotate_left
            · intro w hSw; obtain ⟨d0, d1, d2, d3, d4⟩ := hSw.1; have e0 := hSw.2.1.c0; have e1 := hSw.2.1.c1; have e2 := hSw.2.1.c2; have e3 := hSw.2.1.c3; have e4 := hSw.2.1.c4; dsimp only at d0 d1 d2 d3 d4 e0 e1 e2 e3 e4; go_simp
              first | done | with_reducible rfl
            refine wpAnyH_takeE (i := 14) (some 101) (v := ?_) rfl rfl (by as_aux_lemma => kernel_rfl) (by as_aux_lemma => kernel_rfl) (by as_aux_lemma => kernel_rfl) (fun _ _ _ h => h) (Or.inl ⟨by kernel_rfl, ?_⟩) hS ?_
            rotate_left
            · intro w hSw; obtain ⟨d0, d1, d2, d3, d4⟩ := hSw.1; have e0 := hSw.2.1.c0; have e1 := hSw.2.1.c1; have e2 := hSw.2.1.c2; have e3 := hSw.2.1.c3; have e4 := hSw.2.1.c4; dsimp only at d0 d1 d2 d3 d4 e0 e1 e2 e3 e4; go_simp
              first | done | with_reducible rfl
            refine wpAnyH_ready (rs := [15]) (by as_aux_lemma => kernel_rfl) (by simp) ?_
            refine AllReadyH.cons rfl (fun K hK => ?_) AllReadyH.nil
            go_simp
            go_wp2_with (go_at_call 27; refine (HAb.out _).mono ?_; rintro e w10 ⟨rfl, q10⟩)
            refine hK.out _ _ ?_ (fun hS => ?_)
            · exact ⟨hS.1.on q10, hS.2.1.on q10, hS.2.2.trans (q10.mono hS.2.2.size)⟩
            clear hK K
            refine wpAnyH_takeE (i := 16) (some 103) (v := ?_) rfl rfl (by as_aux_lemma => kernel_rfl) (by as_aux_lemma => kernel_rfl) (by as_aux_lemma => kernel_rfl) (fun _ _ _ h => h) (Or.inl ⟨by kernel_rfl, ?_⟩) hS ?_
            rotate_left
            · intro w hSw; obtain ⟨d0, d1, d2, d3, d4⟩ := hSw.1; have e0 := hSw.2.1.c0; have e1 := hSw.2.1.c1; have e2 := hSw.2.1.c2; have e3 := hSw.2.1.c3; have e4 := hSw.2.1.c4; dsimp only at d0 d1 d2 d3 d4 e0 e1 e2 e3 e4; go_simp
              first | done | with_reducible rfl
            refine wpAnyH_takeE (i := 17) (some 104) (v := ?_) rfl rfl (by as_aux_lemma => kernel_rfl) (by as_aux_lemma => kernel_rfl) (by as_aux_lemma => kernel_rfl) (fun _ _ _ h => h) (Or.inl ⟨by kernel_rfl, ?_⟩) hS ?_
            rotate_left
            · intro w hSw; obtain ⟨d0, d1, d2, d3, d4⟩ := hSw.1; have e0 := hSw.2.1.c0; have e1 := hSw.2.1.c1; have e2 := hSw.2.1.c2; have e3 := hSw.2.1.c3; have e4 := hSw.2.1.c4; dsimp only at d0 d1 d2 d3 d4 e0 e1 e2 e3 e4; go_simp
              first | done | with_reducible rfl
            have HB3 := Lib.hid hS.2.2
            refine wpAnyH_done (by kernel_rfl) ?_ _
            clear hS
            go_simp
            go_wp2
            go_roundw
            case rel => exact ⟨n + 1, by omega, by go_num, HB3⟩
            case measure => simp [intOf]; omega
          · skip
            have hc1 : (checkEn ⟨kx, tx, ox, vx, ux⟩ == 0) = false := by simpa using hc0
            generalize checkEn ⟨kx, tx, ox, vx, ux⟩ = ch at *
            clear HDm
            refine wp_region_any (by kernel_rfl) ?_
            change wpAny _ _ _ _ _ _ _ (World.drew _)
            have hS : (fun w' : World => RowAt w' bA (oA + n * 5) ⟨kx, tx, ox, vx, ux⟩ ∧ EBlk w' b9 ⟨kg, tg, og, vg, ug⟩ ∧ Below w4.heap.size w4 w') w7.drew := ⟨rA, zg, q7.drew⟩
            refine wpAny_of_held (S := fun w' => RowAt w' bA (oA + n * 5) ⟨kx, tx, ox, vx, ux⟩ ∧ EBlk w' b9 ⟨kg, tg, og, vg, ug⟩ ∧ Below w4.heap.size w4 w') _ _ _ _ ?_
            clear rA zg q7
            refine wpAnyH_takeE (i := 0) (some 87) (v := ?_) rfl rfl (by as_aux_lemma => kernel_rfl) (by as_aux_lemma => kernel_rfl) (by as_aux_lemma => kernel_rfl) (fun _ _ _ h => h) (Or.inl ⟨by kernel_rfl, ?_⟩) hS ?_
            rotate_left
            · intro w hSw; obtain ⟨d0, d1, d2, d3, d4⟩ := hSw.1; have e0 := hSw.2.1.c0; have e1 := hSw.2.1.c1; have e2 := hSw.2.1.c2; have e3 := hSw.2.1.c3; have e4 := hSw.2.1.c4; dsimp only at d0 d1 d2 d3 d4 e0 e1 e2 e3 e4; go_simp
              first | done | with_reducible rfl
            refine wpAnyH_takeE (i := 1) (some 88) (v := ?_) rfl rfl (by as_aux_lemma => kernel_rfl) (by as_aux_lemma => kernel_rfl) (by as_aux_lemma => kernel_rfl) (fun _ _ _ h => h) (Or.inl ⟨by kernel_rfl, ?_⟩) hS ?_
            rotate_left
            · intro w hSw; obtain ⟨d0, d1, d2, d3, d4⟩ := hSw.1; have e0 := hSw.2.1.c0; have e1 := hSw.2.1.c1; have e2 := hSw.2.1.c2; have e3 := hSw.2.1.c3; have e4 := hSw.2.1.c4; dsimp only at d0 d1 d2 d3 d4 e0 e1 e2 e3 e4; go_simp
              first | done | with_reducible rfl
            refine wpAnyH_takeE (i := 2) (some 89) (v := ?_) rfl rfl (by as_aux_lemma => kernel_rfl) (by as_aux_lemma => kernel_rfl) (by as_aux_lemma => kernel_rfl) (fun _ _ _ h => h) (Or.inl ⟨by kernel_rfl, ?_⟩) hS ?_
            rotate_left
            · intro w hSw; obtain ⟨d0, d1, d2, d3, d4⟩ := hSw.1; have e0 := hSw.2.1.c0; have e1 := hSw.2.1.c1; have e2 := hSw.2.1.c2; have e3 := hSw.2.1.c3; have e4 := hSw.2.1.c4; dsimp only at d0 d1 d2 d3 d4 e0 e1 e2 e3 e4; go_simp
              first | done | with_reducible rfl
            refine wpAnyH_takeE (i := 3) (some 90) (v := ?_) rfl rfl (by as_aux_lemma => kernel_rfl) (by as_aux_lemma => kernel_rfl) (by as_aux_lemma => kernel_rfl) (fun _ _ _ h => h) (Or.inl ⟨by kernel_rfl, ?_⟩) hS ?_
            rotate_left
            · intro w hSw; obtain ⟨d0, d1, d2, d3, d4⟩ := hSw.1; have e0 := hSw.2.1.c0; have e1 := hSw.2.1.c1; have e2 := hSw.2.1.c2; have e3 := hSw.2.1.c3; have e4 := hSw.2.1.c4; dsimp only at d0 d1 d2 d3 d4 e0 e1 e2 e3 e4; go_simp
              first | done | with_reducible rfl
            refine wpAnyH_ready (rs := [4]) (by as_aux_lemma => kernel_rfl) (by simp) ?_
            refine AllReadyH.cons rfl (fun K hK => ?_) AllReadyH.nil
            go_simp
            go_wp2_with (go_at_call 26; refine (HCk.out _).mono ?_; rintro e w9 ⟨rfl, q9⟩)
            refine hK.out _ _ ?_ (fun hS => ?_)
            · exact ⟨hS.1.on q9, hS.2.1.on q9, hS.2.2.trans (q9.mono hS.2.2.size)⟩
            clear hK K
            refine wpAnyH_takeE (i := 5) (some 92) (v := ?_) rfl rfl (by as_aux_lemma => kernel_rfl) (by as_aux_lemma => kernel_rfl) (by as_aux_lemma => kernel_rfl) (fun _ _ _ h => h) (Or.inl ⟨by kernel_rfl, ?_⟩) hS ?_
            rotate_left
            · intro w hSw; obtain ⟨d0, d1, d2, d3, d4⟩ := hSw.1; have e0 := hSw.2.1.c0; have e1 := hSw.2.1.c1; have e2 := hSw.2.1.c2; have e3 := hSw.2.1.c3; have e4 := hSw.2.1.c4; dsimp only at d0 d1 d2 d3 d4 e0 e1 e2 e3 e4; go_simp
              first | done | with_reducible rfl
            refine wpAnyH_takeE (i := 6) (some 93) (v := ?_) rfl rfl (by as_aux_lemma => kernel_rfl) (by as_aux_lemma => kernel_rfl) (by as_aux_lemma => kernel_rfl) (fun _ _ _ h => h) (Or.inl ⟨by kernel_rfl, ?_⟩) hS ?_
            rotate_left
            · intro w hSw; obtain ⟨d0, d1, d2, d3, d4⟩ := hSw.1; have e0 := hSw.2.1.c0; have e1 := hSw.2.1.c1; have e2 := hSw.2.1.c2; have e3 := hSw.2.1.c3; have e4 := hSw.2.1.c4; dsimp only at d0 d1 d2 d3 d4 e0 e1 e2 e3 e4; go_simp
              first | done | with_reducible rfl
            refine wpAnyH_takeE (i := 7) (some 94) (v := undef) rfl rfl (by as_aux_lemma => kernel_rfl) (by as_aux_lemma => kernel_rfl) (by as_aux_lemma => kernel_rfl) (fun _ _ _ h => h) (Or.inr ⟨by kernel_rfl, rfl⟩) hS ?_
            refine wpAnyH_takeE (i := 8) (some 95) (v := undef) rfl rfl (by as_aux_lemma => kernel_rfl) (by as_aux_lemma => kernel_rfl) (by as_aux_lemma => kernel_rfl) (fun _ _ _ h => h) (Or.inr ⟨by kernel_rfl, rfl⟩) hS ?_
            refine wpAnyH_takeE (i := 9) (some 96) (v := undef) rfl rfl (by as_aux_lemma => kernel_rfl) (by as_aux_lemma => kernel_rfl) (by as_aux_lemma => kernel_rfl) (fun _ _ _ h => h) (Or.inr ⟨by kernel_rfl, rfl⟩) hS ?_
            refine wpAnyH_takeE (i := 10) (some 97) (v := undef) rfl rfl (by as_aux_lemma => kernel_rfl) (by as_aux_lemma => kernel_rfl) (by as_aux_lemma => kernel_rfl) (fun _ _ _ h => h) (Or.inr ⟨by kernel_rfl, rfl⟩) hS ?_
            refine wpAnyH_takeE (i := 11) (some 98) (v := undef) rfl rfl (by as_aux_lemma => kernel_rfl) (by as_aux_lemma => kernel_rfl) (by as_aux_lemma => kernel_rfl) (fun _ _ _ h => h) (Or.inr ⟨by kernel_rfl, rfl⟩) hS ?_
            refine wpAnyH_takeE (i := 12) (some 99) (v := undef) rfl rfl (by as_aux_lemma => kernel_rfl) (by as_aux_lemma => kernel_rfl) (by as_aux_lemma => kernel_rfl) (fun _ _ _ h => h) (Or.inr ⟨by kernel_rfl, rfl⟩) hS ?_
            refine wpAnyH_takeE (i := 13) (some 100) (v := undef) rfl rfl (by as_aux_lemma => kernel_rfl) (by as_aux_lemma => kernel_rfl) (by as_aux_lemma => kernel_rfl) (fun _ _ _ h => h) (Or.inr ⟨by kernel_rfl, rfl⟩) hS ?_
            refine wpAnyH_takeE (i := 14) (some 101) (v := undef) rfl rfl (by as_aux_lemma => kernel_rfl) (by as_aux_lemma => kernel_rfl) (by as_aux_lemma => kernel_rfl) (fun _ _ _ h => h) (Or.inr ⟨by kernel_rfl, rfl⟩) hS ?_
            refine wpAnyH_takeE (i := 15) (some 102) (v := undef) rfl rfl (by as_aux_lemma => kernel_rfl) (by as_aux_lemma => kernel_rfl) (by as_aux_lemma => kernel_rfl) (fun _ _ _ h => h) (Or.inr ⟨by kernel_rfl, rfl⟩) hS ?_
            refine wpAnyH_takeE (i := 16) (some 103) (v := undef) rfl rfl (by as_aux_lemma => kernel_rfl) (by as_aux_lemma => kernel_rfl) (by as_aux_lemma => kernel_rfl) (fun _ _ _ h => h) (Or.inr ⟨by kernel_rfl, rfl⟩) hS ?_
            refine wpAnyH_takeE (i := 17) (some 104) (v := ?_) rfl rfl (by as_aux_lemma => kernel_rfl) (by as_aux_lemma => kernel_rfl) (by as_aux_lemma => kernel_rfl) (fun _ _ _ h => h) (Or.inl ⟨by kernel_rfl, ?_⟩) hS ?_
            rotate_left
            · intro w hSw; obtain ⟨d0, d1, d2, d3, d4⟩ := hSw.1; have e0 := hSw.2.1.c0; have e1 := hSw.2.1.c1; have e2 := hSw.2.1.c2; have e3 := hSw.2.1.c3; have e4 := hSw.2.1.c4; dsimp only at d0 d1 d2 d3 d4 e0 e1 e2 e3 e4; go_simp
              first | done | with_reducible rfl
            have HB3 := Lib.hid hS.2.2
            refine wpAnyH_done (by kernel_rfl) ?_ _
            clear hS
            go_simp
            go_wp2
            go_roundw
            case rel => exact ⟨n + 1, by omega, by go_num, HB3⟩
            case measure => simp [intOf]; omega
        · have hnl : ¬ (n : Int) < (nA : Int) := by omega
          have HQ : Hid (Below W.heap.size W wr) := Lib.hid (by obtain ⟨m0, x0, x1, q0⟩ := HS5.out; exact q0.trans (HB2.out.mono q0.size))
          clear HB2
          go_wp2_with (go_at_call 10; refine (cawake_any _).mono ?_; rintro e w9 ⟨rfl, q9⟩)
          go_ret
          exact ⟨rfl, HQ.out.trans (q9.mono HQ.out.size)⟩

end Go.Proofs.Ytjkhonelidhakab
