/-
  The walk of ProbeRises.
-/
import Derived.Test.YtnoconampcemoaaO18
namespace Go.Proofs.Ytnoconampcemoaa
open Go Go.RowKit

/-- What the loop holds. -/
def RiseSt (W w : World) (B b d : Nat) (P : Pb) (now : Int) (i L : Nat) : Prop :=
  ∃ T R U a n c x y z, WSt W w B b d P T R U now a n c x y z ∧ P.s = 0 ∧ P.qs = (L : Int) ∧ L ≤ i ∧ 0 ≤ now ∧ now ≤ 64 * (i : Int) ∧ SelfOk P
theorem ackP_same (P : Pb) (q s : Int) : (ackP P q s).s = P.s ∧ (ackP P q s).qs = P.qs ∧ (SelfOk P → SelfOk (ackP P q s)) := by
  unfold ackP
  split
  · exact ⟨rfl, rfl, fun _ h => by cases h⟩
  · exact ⟨rfl, rfl, id⟩
theorem watchP_self {P : Pb} (h : SelfOk P) (m : Mem) (now : Int) : SelfOk (watchP P m now) := by
  obtain ⟨h1, -, h3, h4⟩ := watchP_same P m now
  intro hq
  rw [h3] at hq
  rw [h4, h1]
  exact h hq
theorem wrapEq16 (x : Int) : IntKind.i64.wrap x = wrap64 x := by rw [IntKind.wrap_i64]; unfold wrap64; omega
theorem by_facts (y : Nat) (now : Int) (i : Nat) (h0 : 0 ≤ now) (h1 : now ≤ 64 * (i : Int)) (hi : i ≤ 200) : ((y : Int)).tmod 64 = ((y % 64 : Nat) : Int) ∧ (y : Int) % 64 = ((y % 64 : Nat) : Int) ∧ wrap64 ((y % 64 : Nat) : Int) = ((y % 64 : Nat) : Int) ∧
    wrap64 (now + ((y % 64 : Nat) : Int)) = now + ((y % 64 : Nat) : Int) ∧ (0 ≤ now + ((y % 64 : Nat) : Int) ∧ now + ((y % 64 : Nat) : Int) ≤ 64 * ((i + 1 : Nat) : Int)) := by
  have h2 : y % 64 < 64 := Nat.mod_lt _ (by decide)
  refine ⟨by rw [Int.tmod_eq_emod_of_nonneg (by omega)]; omega, by omega, ?_, ?_, by omega⟩
  · unfold wrap64; omega
  · unfold wrap64; omega
theorem rise_facts (L i : Nat) (now : Int) {n : Nat} (h : L ≤ i) (h1 : i < n) (h2 : n ≤ 200) (h3 : now ≤ 64 * (i : Int)) : L ≤ i + 1 ∧ L + 1 ≤ i + 1 ∧ wrap64 ((L : Int) + 1) = (L : Int) + 1 ∧ (L : Int) + 1 = ((L + 1 : Nat) : Int) ∧ now ≤ 64 * ((i + 1 : Nat) : Int) :=
  ⟨by omega, by omega, by unfold wrap64; omega, by omega, by omega⟩
set_option maxRecDepth 100000 in
set_option maxHeartbeats 32000000 in
theorem rises_walkP (a0 : Option Addr) (c0 n : Nat) (l : List Ax) (W : World) (hM : AxsAt W a0 l) (hF : ∀ y ∈ l, AxFit y) (hn : n = l.length) :
    Calls Try.prog 8 #[.slice a0 n c0] W fun e w' => e = .returned (.bool true) ∧ Below W.heap.size W w' := by
  have HAw := Lib.hid (fun u => pbawake_any u)
  have HMd := Lib.hid (pbmade_ok 0 10 3 W (by decide) (by decide) (by decide))
  by_cases h200 : n ≤ 200
  case neg =>
    have hgt : (200 : Int) < (n : Int) := by omega
    clear hn
    go_enter Try.func8, Try.ntmps8
    go_wp2_with (go_at_call 9; refine HMd.out.mono ?_; rintro e w1 ⟨B, b, d, x, rfl, s1⟩; replace s1 := Lib.hid s1; refine Hid.out ?_)
    refine Lib.hid ?_
    have p0 := s1.out.blk.at.p0
    go_wp2_with (go_at_call 10; refine (HAw.out _).mono ?_; rintro e w2 ⟨rfl, q2⟩; replace q2 := Lib.hid q2; refine Hid.out ?_)
    refine Lib.hid ?_
    have HE := Lib.hid (s1.out.st.on q2.out).below
    go_wp2
    go_ret
    exact ⟨rfl, HE.out⟩
  have hgt : ¬ (200 : Int) < (n : Int) := by omega
  have HN := Lib.hid hn
  have HM := Lib.hid hM
  have HF := Lib.hid hF
  clear hn hM hF
  go_enter Try.func8, Try.ntmps8
  go_wp2_with (go_at_call 9; refine HMd.out.mono ?_; rintro e w1 ⟨B, b, d, x, rfl, s1⟩; replace s1 := Lib.hid s1; refine Hid.out ?_)
  refine Lib.hid ?_
  have p0 := s1.out.blk.at.p0
  have HS0 : Hid (RiseSt W w1 B b d (newPb 0 10 3) 0 0 0) := Lib.hid ⟨_, _, _, _, _, _, _, _, _, s1.out, rfl, rfl, Nat.le_refl _, Int.le_refl _, by decide, fun h => by cases h⟩
  clear HMd s1
  go_wp2
  clear p0
  go_loopw [5, 6] (fun lv x wr => ∃ (i L : Nat) (P : Pb) (now : Int), i ≤ n ∧ x = .int .i64 (i : Int) ∧ lv = .int .i64 (L : Int) ∧ Hid (RiseSt W wr B b d P now i L)) (fun _ x _ => n - (intOf x).toNat)
  case atStart => exact ⟨0, 0, _, 0, Nat.zero_le _, rfl, rfl, HS0⟩
  case round =>
    clear HS0
    obtain ⟨i, L, P, now, hi, rfl, rfl, HR⟩ := hrel
    by_cases hlt : i < n
    case neg =>
      have hkl : ¬ (i : Int) < (n : Int) := by omega
      have HB : Hid (Below W.heap.size W wr) := Lib.hid (by obtain ⟨T, R, U, a, n, c, x, y, z, h, -⟩ := HR.out; exact h.st.below)
      go_wp2_with (go_at_call 10; refine (HAw.out _).mono ?_; rintro e w2 ⟨rfl, q2⟩; replace q2 := Lib.hid q2; refine Hid.out ?_)
      refine Lib.hid ?_
      have HE := Lib.hid (HB.out.trans (q2.out.mono HB.out.size))
      go_wp2
      go_ret
      exact ⟨rfl, HE.out⟩
    have hkl : (i : Int) < (n : Int) := by omega
    have hkx : i < l.length := by have := HN.out; omega
    obtain ⟨ba, oa, rfl, hba, hrow⟩ := HM.out.row i hkx
    have hfit := HF.out l[i] (List.getElem_mem hkx)
    generalize l[i] = A at *
    clear hkx
    have HRow : Hid (∀ u, Below W.heap.size W u → AxRow u ba (oa + i * 7) A) := Lib.hid (fun u hu => hrow.below hu hba)
    have HFit := Lib.hid hfit
    clear hrow hfit
    obtain ⟨T, R, U, a, nn, c, x, y, z, hS, hs0, hqs, hLi, hn0, hn1, hself⟩ := HR.out
    have HS := Lib.hid hS
    have HX := Lib.hid (And.intro hs0 (And.intro hqs (And.intro hLi (And.intro hn0 (And.intro hn1 hself)))))
    have HV := Lib.hid (rise_facts L i now hLi hlt h200 hn1)
    have p0 := hS.blk.at.p0
    obtain ⟨e0, e1, e2, e3, e4, e5, e6⟩ := HRow.out _ hS.st.below
    obtain ⟨q0, z0, r0, hask⟩ : ∃ q z r, askedR P = (q, z, r) := ⟨_, _, _, rfl⟩
    have HAs := Lib.hid (pbAsked_any b P wr hS.st.pb q0 z0 r0 hask)
    have HAsk := Lib.hid hask
    clear HR hS hs0 hqs hLi hn0 hn1 hself hask
    obtain ⟨kk, hkk⟩ : ∃ kk, A.k % 5 = kk := ⟨_, rfl⟩
    have hk5 : kk < 5 := by omega
    have k1 : ((A.k : Int)).tmod 5 = (kk : Int) := by rw [Int.tmod_eq_emod_of_nonneg (by omega)]; omega
    have k2 : (A.k : Int) % 5 = (kk : Int) := by omega
    have HKK := Lib.hid hkk
    clear hkk

    match kk, hk5 with
    | 0, _ =>
      as_aux_lemma =>
        go_wp2_with (go_at_call 17; refine HAs.out.mono ?_; rintro e w2 ⟨rfl, q2⟩; replace q2 := Lib.hid q2; refine Hid.out ?_)
        refine Lib.hid ?_
        clear p0 e0 e1 e2 e3 e4 e5 e6
        have HS2 := Lib.hid (HS.out.on q2.out)
        obtain ⟨e0, e1, e2, e3, e4, e5, e6⟩ := HRow.out _ HS2.out.st.below
        have p0 := HS2.out.blk.at.p0
        go_wp2_with fail
        obtain ⟨kby, kby2, kby3, kby4, hT9⟩ := by_facts A.y now i HX.out.2.2.2.1 HX.out.2.2.2.2.1 (Nat.le_trans (Nat.le_of_lt hlt) h200)
        have HT9 := Lib.hid hT9
        clear hT9
        obtain ⟨by64, hby⟩ : ∃ t : Int, ((A.y % 64 : Nat) : Int) = t := ⟨_, rfl⟩
        rw [hby] at kby kby2 kby3 kby4 HT9
        rw [← wrapEq16] at kby3 kby4
        have pn := HS2.out.blk.at.now
        have pf := HS2.out.blk.f
        have HBy : Hid (∀ u, w2.grownBy u (some B) → u.cell? ⟨ba, oa + i * 7 + 1, none⟩ = some (.int .u8 (A.y : Int))) := Lib.hid (fun u hu => hu.cell e1 (by have h1 := HS2.out.lB; simp; omega))
        refine wp_region_any (by kernel_rfl) ?_
        change wpAny _ _ _ _ _ _ _ (World.drew _)
        have hS : (fun w' : World => w2.grownBy w' (some B)) w2.drew := grownBy_drewN w2 1 _
        refine wpAny_of_held (S := fun w' => w2.grownBy w' (some B)) _ _ _ _ ?_
        refine wpAnyH_takeE (i := 0) (some 65) (v := ?_) rfl rfl (by as_aux_lemma => kernel_rfl) (by as_aux_lemma => kernel_rfl) (by as_aux_lemma => kernel_rfl) (fun _ _ _ h => h) (Or.inl ⟨by kernel_rfl, ?_⟩) hS ?_
        rotate_left
        · intro w hSw; have e1 := HBy.out _ hSw; go_simp
          first | done | with_reducible rfl
        refine wpAnyH_takeE (i := 1) (some 66) (v := ?_) rfl rfl (by as_aux_lemma => kernel_rfl) (by as_aux_lemma => kernel_rfl) (by as_aux_lemma => kernel_rfl) (fun _ _ _ h => h) (Or.inl ⟨by kernel_rfl, ?_⟩) hS ?_
        rotate_left
        · intro w hSw; have e1 := HBy.out _ hSw; go_simp
          first | done | with_reducible rfl
        refine wpAnyH_takeE (i := 2) (some 67) (v := ?_) rfl rfl (by as_aux_lemma => kernel_rfl) (by as_aux_lemma => kernel_rfl) (by as_aux_lemma => kernel_rfl) (fun _ _ _ h => h) (Or.inl ⟨by kernel_rfl, ?_⟩) hS ?_
        rotate_left
        · intro w hSw; have e1 := HBy.out _ hSw; go_simp
          first | done | with_reducible rfl
        refine wpAnyH_takeE (i := 4) (some 69) (v := ?_) rfl rfl (by as_aux_lemma => kernel_rfl) (by as_aux_lemma => kernel_rfl) (by as_aux_lemma => kernel_rfl) (fun _ _ _ h => h) (Or.inl ⟨by kernel_rfl, ?_⟩) hS ?_
        rotate_left
        · intro w hSw; have e1 := HBy.out _ hSw; go_simp
          first | done | with_reducible rfl
        (try simp only [Act.put, List.setIfInBounds_toArray, List.set_cons_zero, List.set_cons_succ])
        refine wpAnyH_takeE (i := 5) (some 70) (v := ?_) rfl rfl (by as_aux_lemma => kernel_rfl) (by as_aux_lemma => kernel_rfl) (by as_aux_lemma => kernel_rfl) (fun _ _ _ h => h) (Or.inl ⟨by kernel_rfl, ?_⟩) hS ?_
        rotate_left
        · intro w hSw; have e1 := HBy.out _ hSw; go_simp
          first | done | with_reducible rfl
        refine wpAnyH_takeE (i := 6) (some 71) (v := ?_) rfl rfl (by as_aux_lemma => kernel_rfl) (by as_aux_lemma => kernel_rfl) (by as_aux_lemma => kernel_rfl) (fun _ _ _ h => h) (Or.inl ⟨by kernel_rfl, ?_⟩) hS ?_
        rotate_left
        · intro w hSw; have e1 := HBy.out _ hSw; go_simp
          first | done | with_reducible rfl
        refine wpAnyH_takeE (i := 7) (some 72) (v := ?_) rfl rfl (by as_aux_lemma => kernel_rfl) (by as_aux_lemma => kernel_rfl) (by as_aux_lemma => kernel_rfl) (fun _ _ _ h => h) (Or.inl ⟨by kernel_rfl, ?_⟩) hS ?_
        rotate_left
        · intro w hSw; have e1 := HBy.out _ hSw; go_simp
          first | done | with_reducible rfl
        refine wpAnyH_takeE (i := 8) (some 73) (v := ?_) rfl rfl (by as_aux_lemma => kernel_rfl) (by as_aux_lemma => kernel_rfl) (by as_aux_lemma => kernel_rfl) (fun _ _ _ h => h) (Or.inl ⟨by kernel_rfl, ?_⟩) hS ?_
        rotate_left
        · intro w hSw; have e1 := HBy.out _ hSw; go_simp
          first | done | with_reducible rfl
        (try simp only [Act.put, List.setIfInBounds_toArray, List.set_cons_zero, List.set_cons_succ])
        refine wpAnyH_takeE (i := 9) (some 74) (v := ?_) rfl rfl (by as_aux_lemma => kernel_rfl) (by as_aux_lemma => kernel_rfl) (by as_aux_lemma => kernel_rfl) (fun _ _ _ h => h) (Or.inl ⟨by kernel_rfl, ?_⟩) hS ?_
        rotate_left
        · intro w hSw; have e1 := HBy.out _ hSw; go_simp
          first | done | with_reducible rfl
        refine wpAnyH_takeE (i := 10) (some 75) (v := ?_) rfl rfl (by as_aux_lemma => kernel_rfl) (by as_aux_lemma => kernel_rfl) (by as_aux_lemma => kernel_rfl) (fun _ _ _ h => h) (Or.inl ⟨by kernel_rfl, ?_⟩) hS ?_
        rotate_left
        · intro w hSw; have e1 := HBy.out _ hSw; go_simp
          first | done | with_reducible rfl
        refine wpAnyH_ready (rs := [3]) (by as_aux_lemma => kernel_rfl) (by simp) ?_
        refine AllReadyH.cons rfl (fun K hK => ?_) AllReadyH.nil
        go_simp
        refine hK.out _ _ hS (fun hS => ?_)
        clear hK K
        refine wpAnyH_takeE (i := 11) (some 76) (v := ?_) rfl rfl (by as_aux_lemma => kernel_rfl) (by as_aux_lemma => kernel_rfl) (by as_aux_lemma => kernel_rfl) (fun _ _ _ h => h) (Or.inl ⟨by kernel_rfl, ?_⟩) hS ?_
        rotate_left
        · intro w hSw; skip; go_simp
          first | done | with_reducible rfl
        refine wpAnyH_takeE (i := 12) (some 77) (v := ?_) rfl rfl (by as_aux_lemma => kernel_rfl) (by as_aux_lemma => kernel_rfl) (by as_aux_lemma => kernel_rfl) (fun _ _ _ h => h) (Or.inl ⟨by kernel_rfl, ?_⟩) hS ?_
        rotate_left
        · intro w hSw; skip; go_simp
          first | done | with_reducible rfl
        (try simp only [Act.put, List.setIfInBounds_toArray, List.set_cons_zero, List.set_cons_succ])
        refine wpAnyH_takeE (i := 13) (some 78) (v := ?_) rfl rfl (by as_aux_lemma => kernel_rfl) (by as_aux_lemma => kernel_rfl) (by as_aux_lemma => kernel_rfl) (fun _ _ _ h => h) (Or.inl ⟨by kernel_rfl, ?_⟩) hS ?_
        rotate_left
        · intro w hSw; skip; go_simp
          first | done | with_reducible rfl
        have hg3 : w2.grownBy ((w2.setCell ⟨B, 14, none⟩ (.int .i64 (now + by64))).drew) (some B) := (grownBy_setCell w2 B 14 _).trans (grownBy_drewN _ 1 _)
        have HS3 : Hid (WSt W ((w2.setCell ⟨B, 14, none⟩ (.int .i64 (now + by64))).drew) B b d P T R U (now + by64) a nn c x y z) := Lib.hid ((HS2.out.storeN _).on ((Below.refl _ _).drew))
        refine wpAnyH_ready (rs := [14]) (by as_aux_lemma => kernel_rfl) (by simp) ?_
        refine AllReadyH.cons rfl (fun K hK => ?_) AllReadyH.nil
        go_simp
        refine hK.out _ _ hg3 (fun hS => ?_)
        clear hK K pn pf hg3
        refine wpAnyH_done (by kernel_rfl) ?_ _
        (try simp only [Act.put, List.setIfInBounds_toArray, List.set_cons_zero, List.set_cons_succ])
        clear p0 e0 e1 e2 e3 e4 e5 e6 HS2 HBy hS kby kby2 kby3 kby4
        generalize (w2.setCell ⟨B, 14, none⟩ (.int .i64 (now + by64))).drew = w3 at *
        generalize now + by64 = now3 at *
        obtain ⟨e0, e1, e2, e3, e4, e5, e6⟩ := HRow.out _ HS3.out.st.below
        go_wp2_with fail
        have HTk := Lib.hid ((HS3.out.st.on ((Below.refl _ w3).drew)).tick now3 A.d HFit.out.d)
        have HC : Hid (∀ u, Grown2 w3 u b d → (u.cell? ⟨B, 0, none⟩ = some (.pointer (some ⟨b, 0, none⟩)) ∧ u.cell? ⟨B, 1, none⟩ = some (.pointer (some ⟨d, 0, none⟩)) ∧ u.cell? ⟨B, 14, none⟩ = some (.int .i64 now3)) ∧ u.cell? ⟨ba, oa + i * 7 + 2, none⟩ = some (.int .u32 (A.d : Int))) := Lib.hid (fun u g => by
          have h := (HS3.out.blk.of (g.block B HS3.out.blk.lt HS3.out.nb HS3.out.nd)).at
          exact ⟨⟨h.p0, h.p1, h.now⟩, (HRow.out _ (Below.grown2 HS3.out.st.below g HS3.out.st.below.size HS3.out.st.lb HS3.out.st.ld)).c2⟩)
        refine wp_region_any (by kernel_rfl) ?_
        change wpAny _ _ _ _ _ _ _ (World.drew _)
        have hS : (fun w' : World => Grown2 w3 w' b d) w3.drew := ⟨rfl, rfl, rfl, Nat.le_refl _, fun _ _ _ _ => rfl⟩
        refine wpAny_of_held (S := fun w' => Grown2 w3 w' b d) _ _ _ _ ?_
        refine wpAnyH_takeE (i := 0) (some 80) (v := ?_) rfl rfl (by as_aux_lemma => kernel_rfl) (by as_aux_lemma => kernel_rfl) (by as_aux_lemma => kernel_rfl) (fun _ _ _ h => h) (Or.inl ⟨by kernel_rfl, ?_⟩) hS ?_
        rotate_left
        · intro w hSw; obtain ⟨⟨p0, p1, pn⟩, e2⟩ := HC.out _ hSw; go_simp
          first | done | with_reducible rfl
        refine wpAnyH_takeE (i := 1) (some 81) (v := ?_) rfl rfl (by as_aux_lemma => kernel_rfl) (by as_aux_lemma => kernel_rfl) (by as_aux_lemma => kernel_rfl) (fun _ _ _ h => h) (Or.inl ⟨by kernel_rfl, ?_⟩) hS ?_
        rotate_left
        · intro w hSw; obtain ⟨⟨p0, p1, pn⟩, e2⟩ := HC.out _ hSw; go_simp
          first | done | with_reducible rfl
        refine wpAnyH_takeE (i := 2) (some 82) (v := ?_) rfl rfl (by as_aux_lemma => kernel_rfl) (by as_aux_lemma => kernel_rfl) (by as_aux_lemma => kernel_rfl) (fun _ _ _ h => h) (Or.inl ⟨by kernel_rfl, ?_⟩) hS ?_
        rotate_left
        · intro w hSw; obtain ⟨⟨p0, p1, pn⟩, e2⟩ := HC.out _ hSw; go_simp
          first | done | with_reducible rfl
        (try simp only [Act.put, List.setIfInBounds_toArray, List.set_cons_zero, List.set_cons_succ])
        refine wpAnyH_takeE (i := 3) (some 83) (v := ?_) rfl rfl (by as_aux_lemma => kernel_rfl) (by as_aux_lemma => kernel_rfl) (by as_aux_lemma => kernel_rfl) (fun _ _ _ h => h) (Or.inl ⟨by kernel_rfl, ?_⟩) hS ?_
        rotate_left
        · intro w hSw; obtain ⟨⟨p0, p1, pn⟩, e2⟩ := HC.out _ hSw; go_simp
          first | done | with_reducible rfl
        refine wpAnyH_takeE (i := 4) (some 84) (v := ?_) rfl rfl (by as_aux_lemma => kernel_rfl) (by as_aux_lemma => kernel_rfl) (by as_aux_lemma => kernel_rfl) (fun _ _ _ h => h) (Or.inl ⟨by kernel_rfl, ?_⟩) hS ?_
        rotate_left
        · intro w hSw; obtain ⟨⟨p0, p1, pn⟩, e2⟩ := HC.out _ hSw; go_simp
          first | done | with_reducible rfl
        refine wpAnyH_takeE (i := 5) (some 85) (v := ?_) rfl rfl (by as_aux_lemma => kernel_rfl) (by as_aux_lemma => kernel_rfl) (by as_aux_lemma => kernel_rfl) (fun _ _ _ h => h) (Or.inl ⟨by kernel_rfl, ?_⟩) hS ?_
        rotate_left
        · intro w hSw; obtain ⟨⟨p0, p1, pn⟩, e2⟩ := HC.out _ hSw; go_simp
          first | done | with_reducible rfl
        refine wpAnyH_takeE (i := 6) (some 86) (v := ?_) rfl rfl (by as_aux_lemma => kernel_rfl) (by as_aux_lemma => kernel_rfl) (by as_aux_lemma => kernel_rfl) (fun _ _ _ h => h) (Or.inl ⟨by kernel_rfl, ?_⟩) hS ?_
        rotate_left
        · intro w hSw; obtain ⟨⟨p0, p1, pn⟩, e2⟩ := HC.out _ hSw; go_simp
          first | done | with_reducible rfl
        (try simp only [Act.put, List.setIfInBounds_toArray, List.set_cons_zero, List.set_cons_succ])
        refine wpAnyH_takeE (i := 7) (some 87) (v := ?_) rfl rfl (by as_aux_lemma => kernel_rfl) (by as_aux_lemma => kernel_rfl) (by as_aux_lemma => kernel_rfl) (fun _ _ _ h => h) (Or.inl ⟨by kernel_rfl, ?_⟩) hS ?_
        rotate_left
        · intro w hSw; obtain ⟨⟨p0, p1, pn⟩, e2⟩ := HC.out _ hSw; go_simp
          first | done | with_reducible rfl
        refine wpAnyH_takeE (i := 8) (some 88) (v := ?_) rfl rfl (by as_aux_lemma => kernel_rfl) (by as_aux_lemma => kernel_rfl) (by as_aux_lemma => kernel_rfl) (fun _ _ _ h => h) (Or.inl ⟨by kernel_rfl, ?_⟩) hS ?_
        rotate_left
        · intro w hSw; obtain ⟨⟨p0, p1, pn⟩, e2⟩ := HC.out _ hSw; go_simp
          first | done | with_reducible rfl
        refine wpAnyH_takeE (i := 9) (some 89) (v := ?_) rfl rfl (by as_aux_lemma => kernel_rfl) (by as_aux_lemma => kernel_rfl) (by as_aux_lemma => kernel_rfl) (fun _ _ _ h => h) (Or.inl ⟨by kernel_rfl, ?_⟩) hS ?_
        rotate_left
        · intro w hSw; obtain ⟨⟨p0, p1, pn⟩, e2⟩ := HC.out _ hSw; go_simp
          first | done | with_reducible rfl
        refine wpAnyH_takeE (i := 10) (some 90) (v := ?_) rfl rfl (by as_aux_lemma => kernel_rfl) (by as_aux_lemma => kernel_rfl) (by as_aux_lemma => kernel_rfl) (fun _ _ _ h => h) (Or.inl ⟨by kernel_rfl, ?_⟩) hS ?_
        rotate_left
        · intro w hSw; obtain ⟨⟨p0, p1, pn⟩, e2⟩ := HC.out _ hSw; go_simp
          first | done | with_reducible rfl
        (try simp only [Act.put, List.setIfInBounds_toArray, List.set_cons_zero, List.set_cons_succ])
        refine wpAnyH_takeE (i := 11) (some 91) (v := ?_) rfl rfl (by as_aux_lemma => kernel_rfl) (by as_aux_lemma => kernel_rfl) (by as_aux_lemma => kernel_rfl) (fun _ _ _ h => h) (Or.inl ⟨by kernel_rfl, ?_⟩) hS ?_
        rotate_left
        · intro w hSw; obtain ⟨⟨p0, p1, pn⟩, e2⟩ := HC.out _ hSw; go_simp
          first | done | with_reducible rfl
        refine wpAnyH_takeE (i := 12) (some 92) (v := ?_) rfl rfl (by as_aux_lemma => kernel_rfl) (by as_aux_lemma => kernel_rfl) (by as_aux_lemma => kernel_rfl) (fun _ _ _ h => h) (Or.inl ⟨by kernel_rfl, ?_⟩) hS ?_
        rotate_left
        · intro w hSw; obtain ⟨⟨p0, p1, pn⟩, e2⟩ := HC.out _ hSw; go_simp
          first | done | with_reducible rfl
        refine wpAnyH_takeE (i := 13) (some 93) (v := ?_) rfl rfl (by as_aux_lemma => kernel_rfl) (by as_aux_lemma => kernel_rfl) (by as_aux_lemma => kernel_rfl) (fun _ _ _ h => h) (Or.inl ⟨by kernel_rfl, ?_⟩) hS ?_
        rotate_left
        · intro w hSw; obtain ⟨⟨p0, p1, pn⟩, e2⟩ := HC.out _ hSw; go_simp
          first | done | with_reducible rfl
        refine wpAnyH_takeE (i := 14) (some 94) (v := ?_) rfl rfl (by as_aux_lemma => kernel_rfl) (by as_aux_lemma => kernel_rfl) (by as_aux_lemma => kernel_rfl) (fun _ _ _ h => h) (Or.inl ⟨by kernel_rfl, ?_⟩) hS ?_
        rotate_left
        · intro w hSw; obtain ⟨⟨p0, p1, pn⟩, e2⟩ := HC.out _ hSw; go_simp
          first | done | with_reducible rfl
        (try simp only [Act.put, List.setIfInBounds_toArray, List.set_cons_zero, List.set_cons_succ])
        refine wpAnyH_takeE (i := 15) (some 95) (v := ?_) rfl rfl (by as_aux_lemma => kernel_rfl) (by as_aux_lemma => kernel_rfl) (by as_aux_lemma => kernel_rfl) (fun _ _ _ h => h) (Or.inl ⟨by kernel_rfl, ?_⟩) hS ?_
        rotate_left
        · intro w hSw; obtain ⟨⟨p0, p1, pn⟩, e2⟩ := HC.out _ hSw; go_simp
          first | done | with_reducible rfl
        refine wpAnyH_takeE (i := 16) (some 96) (v := ?_) rfl rfl (by as_aux_lemma => kernel_rfl) (by as_aux_lemma => kernel_rfl) (by as_aux_lemma => kernel_rfl) (fun _ _ _ h => h) (Or.inl ⟨by kernel_rfl, ?_⟩) hS ?_
        rotate_left
        · intro w hSw; obtain ⟨⟨p0, p1, pn⟩, e2⟩ := HC.out _ hSw; go_simp
          first | done | with_reducible rfl
        refine wpAnyH_ready (rs := [17]) (by as_aux_lemma => kernel_rfl) (by simp) ?_
        refine AllReadyH.cons rfl (fun K hK => ?_) AllReadyH.nil
        go_simp
        go_wp2_with (go_at_call 15; refine HTk.out.mono ?_; rintro e w4 ⟨a4, n4, c4, a5, n5, c5, rfl, o4, m4, hn5, s4, g4⟩; replace o4 := Lib.hid o4; replace s4 := Lib.hid s4; clear m4 hn5)
        refine hK.out _ _ ?_ (fun hS => ?_)
        · exact hS.trans g4
        clear hK K
        refine wpAnyH_takeE (i := 18) (some 79) (v := ?_) rfl rfl (by as_aux_lemma => kernel_rfl) (by as_aux_lemma => kernel_rfl) (by as_aux_lemma => kernel_rfl) (fun _ _ _ h => h) (Or.inl ⟨by kernel_rfl, ?_⟩) hS ?_
        rotate_left
        · intro w hSw; skip; go_simp
          first | done | with_reducible rfl
        refine wpAnyH_takeE (i := 19) (some 98) (v := ?_) rfl rfl (by as_aux_lemma => kernel_rfl) (by as_aux_lemma => kernel_rfl) (by as_aux_lemma => kernel_rfl) (fun _ _ _ h => h) (Or.inl ⟨by kernel_rfl, ?_⟩) hS ?_
        rotate_left
        · intro w hSw; skip; go_simp
          first | done | with_reducible rfl
        (try simp only [Act.put, List.setIfInBounds_toArray, List.set_cons_zero, List.set_cons_succ])
        refine wpAnyH_takeE (i := 20) (some 99) (v := ?_) rfl rfl (by as_aux_lemma => kernel_rfl) (by as_aux_lemma => kernel_rfl) (by as_aux_lemma => kernel_rfl) (fun _ _ _ h => h) (Or.inl ⟨by kernel_rfl, ?_⟩) hS ?_
        rotate_left
        · intro w hSw; skip; go_simp
          first | done | with_reducible rfl
        refine wpAnyH_takeE (i := 21) (some 10) (v := ?_) rfl rfl (by as_aux_lemma => kernel_rfl) (by as_aux_lemma => kernel_rfl) (by as_aux_lemma => kernel_rfl) (fun _ _ _ h => h) (Or.inl ⟨by kernel_rfl, ?_⟩) hS ?_
        rotate_left
        · intro w hSw; skip; go_simp
          first | done | with_reducible rfl
        refine wpAnyH_takeE (i := 22) (some 11) (v := ?_) rfl rfl (by as_aux_lemma => kernel_rfl) (by as_aux_lemma => kernel_rfl) (by as_aux_lemma => kernel_rfl) (fun _ _ _ h => h) (Or.inl ⟨by kernel_rfl, ?_⟩) hS ?_
        rotate_left
        · intro w hSw; skip; go_simp
          first | done | with_reducible rfl
        refine wpAnyH_done (by kernel_rfl) ?_ _
        (try simp only [Act.put, List.setIfInBounds_toArray, List.set_cons_zero, List.set_cons_succ])
        have HS4 := Lib.hid (HS3.out.prog hS s4.out)
        obtain ⟨t1, t2, t3⟩ := tick_outs HS3.out.st.tok HS3.out.st.pok HX.out.2.2.2.2.2 now3 A.d
        have HT1 := Lib.hid t1
        have HT2 := Lib.hid t2
        have HT3 := Lib.hid t3
        clear t1 t2 t3 HC HTk HS3 s4 g4 hS e0 e1 e2 e3 e4 e5 e6 HS
        generalize tickAny P T now3 A.d = K at *
        obtain ⟨KP, KT, Ko, Kn⟩ := K
        dsimp only at HS4 HT2 HT3 o4
        have kL := HV.out.2.2.1
        rcases HT1.out with ⟨ho, hq⟩ | ⟨oo, ho, -, -, -, -, hkd⟩
        · have ho' : Ko = [] := ho
          subst ho'
          obtain ⟨rfl, rfl, rfl⟩ := o4.out.none
          have HP := Lib.hid (And.intro (HT3.out.trans HX.out.1) (And.intro (show KP.qs = (L : Int) from hq.trans HX.out.2.1) (And.intro HV.out.1 (And.intro HT9.out.1 (And.intro HT9.out.2 HT2.out)))))
          clear HT1 HT2 HT3 hq ho o4
          go_wp2
          refine wp_loop_rounds 1 ?_
          rw [rounds_succ]
          obtain ⟨q9, z9, r9, hask9⟩ : ∃ q z r, askedR KP = (q, z, r) := ⟨_, _, _, rfl⟩
          have HAs9 := Lib.hid (pbAsked_any b KP w4 HS4.out.st.pb q9 z9 r9 hask9)
          have HZ9 : Hid (r9 = true → z9 = ((L : Nat) : Int)) := Lib.hid (fun hr => by
            have hq : KP.qs = ((L : Nat) : Int) := HP.out.2.1
            unfold askedR at hask9
            split at hask9
            · simp only [Prod.mk.injEq] at hask9
              rw [← hask9.2.1, hq]
            · simp only [Prod.mk.injEq] at hask9
              rw [← hask9.2.2] at hr
              cases hr)
          clear hask9
          have p9 := HS4.out.blk.at.p0
          go_wp2_with (go_at_call 17; refine HAs9.out.mono ?_; rintro e w9 ⟨rfl, q9x⟩; replace q9x := Lib.hid q9x; refine Hid.out ?_)
          refine Lib.hid ?_
          clear p9
          have HN9 : Hid (RiseSt W w9 B b d KP now3 (i + 1) L) := Lib.hid ⟨_, _, _, _, _, _, _, _, _, HS4.out.on q9x.out, HP.out.1, HP.out.2.1, HP.out.2.2.1, HP.out.2.2.2.1, HP.out.2.2.2.2.1, HP.out.2.2.2.2.2⟩
          clear HS4 HP HAs9 q9x
          cases r9 with
          | true =>
            obtain rfl := HZ9.out (by trivial)
            clear HZ9
            go_wp2
            go_roundw
            case rel => exact ⟨i + 1, L, _, _, by omega, by go_num, rfl, HN9⟩
            case measure => simp [intOf]; omega
          | false =>
            clear HZ9
            go_wp2
            go_roundw
            case rel => exact ⟨i + 1, L, _, _, by omega, by go_num, rfl, HN9⟩
            case measure => simp [intOf]; omega
        · have ho' : Ko = [oo] := ho
          subst ho'
          obtain ⟨gg, rfl, rfl, -, -, x0, x1, x2, x3, x4⟩ := o4.out.one
          obtain ⟨oto, okd, ofr, oab, osq⟩ := oo
          dsimp only at x0 x1 x2 x3 x4 hkd
          rcases hkd with ⟨rfl, -, hq⟩ | ⟨rfl, -, rfl, hq⟩
          · have HP := Lib.hid (And.intro (HT3.out.trans HX.out.1) (And.intro (show KP.qs = (L : Int) from hq.trans HX.out.2.1) (And.intro HV.out.1 (And.intro HT9.out.1 (And.intro HT9.out.2 HT2.out)))))
            clear HT1 HT2 HT3 hq ho o4
            go_wp2
            refine wp_loop_rounds 2 ?_
            rw [rounds_succ]
            go_wp2
            rw [rounds_succ]
            obtain ⟨q9, z9, r9, hask9⟩ : ∃ q z r, askedR KP = (q, z, r) := ⟨_, _, _, rfl⟩
            have HAs9 := Lib.hid (pbAsked_any b KP w4 HS4.out.st.pb q9 z9 r9 hask9)
            have HZ9 : Hid (r9 = true → z9 = ((L : Nat) : Int)) := Lib.hid (fun hr => by
              have hq : KP.qs = ((L : Nat) : Int) := HP.out.2.1
              unfold askedR at hask9
              split at hask9
              · simp only [Prod.mk.injEq] at hask9
                rw [← hask9.2.1, hq]
              · simp only [Prod.mk.injEq] at hask9
                rw [← hask9.2.2] at hr
                cases hr)
            clear hask9
            have p9 := HS4.out.blk.at.p0
            go_wp2_with (go_at_call 17; refine HAs9.out.mono ?_; rintro e w9 ⟨rfl, q9x⟩; replace q9x := Lib.hid q9x; refine Hid.out ?_)
            refine Lib.hid ?_
            clear p9
            have HN9 : Hid (RiseSt W w9 B b d KP now3 (i + 1) L) := Lib.hid ⟨_, _, _, _, _, _, _, _, _, HS4.out.on q9x.out, HP.out.1, HP.out.2.1, HP.out.2.2.1, HP.out.2.2.2.1, HP.out.2.2.2.2.1, HP.out.2.2.2.2.2⟩
            clear HS4 HP HAs9 q9x
            cases r9 with
            | true =>
              obtain rfl := HZ9.out (by trivial)
              clear HZ9
              go_wp2
              go_roundw
              case rel => exact ⟨i + 1, L, _, _, by omega, by go_num, rfl, HN9⟩
              case measure => simp [intOf]; omega
            | false =>
              clear HZ9
              go_wp2
              go_roundw
              case rel => exact ⟨i + 1, L, _, _, by omega, by go_num, rfl, HN9⟩
              case measure => simp [intOf]; omega
          · have hq2 : KP.qs = ((L + 1 : Nat) : Int) := by have h1 : KP.qs = wrap64 (P.qs + 1) := hq; rw [h1, HX.out.2.1, kL]; exact HV.out.2.2.2.1
            rw [HX.out.2.1, kL] at x4
            have HP := Lib.hid (And.intro (HT3.out.trans HX.out.1) (And.intro hq2 (And.intro HV.out.2.1 (And.intro HT9.out.1 (And.intro HT9.out.2 HT2.out)))))
            clear HT1 HT2 HT3 hq ho o4 hq2
            go_wp2
            refine wp_loop_rounds 2 ?_
            rw [rounds_succ]
            go_wp2
            rw [rounds_succ]
            obtain ⟨q9, z9, r9, hask9⟩ : ∃ q z r, askedR KP = (q, z, r) := ⟨_, _, _, rfl⟩
            have HAs9 := Lib.hid (pbAsked_any b KP w4 HS4.out.st.pb q9 z9 r9 hask9)
            have HZ9 : Hid (r9 = true → z9 = (((L + 1) : Nat) : Int)) := Lib.hid (fun hr => by
              have hq : KP.qs = (((L + 1) : Nat) : Int) := HP.out.2.1
              unfold askedR at hask9
              split at hask9
              · simp only [Prod.mk.injEq] at hask9
                rw [← hask9.2.1, hq]
              · simp only [Prod.mk.injEq] at hask9
                rw [← hask9.2.2] at hr
                cases hr)
            clear hask9
            have p9 := HS4.out.blk.at.p0
            go_wp2_with (go_at_call 17; refine HAs9.out.mono ?_; rintro e w9 ⟨rfl, q9x⟩; replace q9x := Lib.hid q9x; refine Hid.out ?_)
            refine Lib.hid ?_
            clear p9
            have HN9 : Hid (RiseSt W w9 B b d KP now3 (i + 1) (L + 1)) := Lib.hid ⟨_, _, _, _, _, _, _, _, _, HS4.out.on q9x.out, HP.out.1, HP.out.2.1, HP.out.2.2.1, HP.out.2.2.2.1, HP.out.2.2.2.2.1, HP.out.2.2.2.2.2⟩
            clear HS4 HP HAs9 q9x
            cases r9 with
            | true =>
              obtain rfl := HZ9.out (by trivial)
              clear HZ9
              go_wp2
              go_roundw
              case rel => exact ⟨i + 1, (L + 1), _, _, by omega, by go_num, rfl, HN9⟩
              case measure => simp [intOf]; omega
            | false =>
              clear HZ9
              go_wp2
              go_roundw
              case rel => exact ⟨i + 1, (L + 1), _, _, by omega, by go_num, rfl, HN9⟩
              case measure => simp [intOf]; omega
    | 1, _ =>
      as_aux_lemma =>
        go_wp2_with (go_at_call 17; refine HAs.out.mono ?_; rintro e w2 ⟨rfl, q2⟩; replace q2 := Lib.hid q2; refine Hid.out ?_)
        refine Lib.hid ?_
        clear p0 e0 e1 e2 e3 e4 e5 e6
        have HS2 := Lib.hid (HS.out.on q2.out)
        obtain ⟨e0, e1, e2, e3, e4, e5, e6⟩ := HRow.out _ HS2.out.st.below
        have p0 := HS2.out.blk.at.p0
        go_wp2_with fail
        obtain ⟨kby, kby2, kby3, kby4, hT9⟩ := by_facts A.y now i HX.out.2.2.2.1 HX.out.2.2.2.2.1 (Nat.le_trans (Nat.le_of_lt hlt) h200)
        have HT9 := Lib.hid hT9
        clear hT9
        obtain ⟨by64, hby⟩ : ∃ t : Int, ((A.y % 64 : Nat) : Int) = t := ⟨_, rfl⟩
        rw [hby] at kby kby2 kby3 kby4 HT9
        rw [← wrapEq16] at kby3 kby4
        have pn := HS2.out.blk.at.now
        have pf := HS2.out.blk.f
        have HBy : Hid (∀ u, w2.grownBy u (some B) → u.cell? ⟨ba, oa + i * 7 + 1, none⟩ = some (.int .u8 (A.y : Int))) := Lib.hid (fun u hu => hu.cell e1 (by have h1 := HS2.out.lB; simp; omega))
        refine wp_region_any (by kernel_rfl) ?_
        change wpAny _ _ _ _ _ _ _ (World.drew _)
        have hS : (fun w' : World => w2.grownBy w' (some B)) w2.drew := grownBy_drewN w2 1 _
        refine wpAny_of_held (S := fun w' => w2.grownBy w' (some B)) _ _ _ _ ?_
        refine wpAnyH_takeE (i := 0) (some 65) (v := ?_) rfl rfl (by as_aux_lemma => kernel_rfl) (by as_aux_lemma => kernel_rfl) (by as_aux_lemma => kernel_rfl) (fun _ _ _ h => h) (Or.inl ⟨by kernel_rfl, ?_⟩) hS ?_
        rotate_left
        · intro w hSw; have e1 := HBy.out _ hSw; go_simp
          first | done | with_reducible rfl
        (try simp only [Act.put, List.setIfInBounds_toArray, List.set_cons_zero, List.set_cons_succ])
        refine wpAnyH_takeE (i := 1) (some 66) (v := ?_) rfl rfl (by as_aux_lemma => kernel_rfl) (by as_aux_lemma => kernel_rfl) (by as_aux_lemma => kernel_rfl) (fun _ _ _ h => h) (Or.inl ⟨by kernel_rfl, ?_⟩) hS ?_
        rotate_left
        · intro w hSw; have e1 := HBy.out _ hSw; go_simp
          first | done | with_reducible rfl
        refine wpAnyH_takeE (i := 2) (some 67) (v := ?_) rfl rfl (by as_aux_lemma => kernel_rfl) (by as_aux_lemma => kernel_rfl) (by as_aux_lemma => kernel_rfl) (fun _ _ _ h => h) (Or.inl ⟨by kernel_rfl, ?_⟩) hS ?_
        rotate_left
        · intro w hSw; have e1 := HBy.out _ hSw; go_simp
          first | done | with_reducible rfl
        refine wpAnyH_takeE (i := 4) (some 69) (v := ?_) rfl rfl (by as_aux_lemma => kernel_rfl) (by as_aux_lemma => kernel_rfl) (by as_aux_lemma => kernel_rfl) (fun _ _ _ h => h) (Or.inl ⟨by kernel_rfl, ?_⟩) hS ?_
        rotate_left
        · intro w hSw; have e1 := HBy.out _ hSw; go_simp
          first | done | with_reducible rfl
        refine wpAnyH_takeE (i := 5) (some 70) (v := ?_) rfl rfl (by as_aux_lemma => kernel_rfl) (by as_aux_lemma => kernel_rfl) (by as_aux_lemma => kernel_rfl) (fun _ _ _ h => h) (Or.inl ⟨by kernel_rfl, ?_⟩) hS ?_
        rotate_left
        · intro w hSw; have e1 := HBy.out _ hSw; go_simp
          first | done | with_reducible rfl
        (try simp only [Act.put, List.setIfInBounds_toArray, List.set_cons_zero, List.set_cons_succ])
        refine wpAnyH_takeE (i := 6) (some 71) (v := ?_) rfl rfl (by as_aux_lemma => kernel_rfl) (by as_aux_lemma => kernel_rfl) (by as_aux_lemma => kernel_rfl) (fun _ _ _ h => h) (Or.inl ⟨by kernel_rfl, ?_⟩) hS ?_
        rotate_left
        · intro w hSw; have e1 := HBy.out _ hSw; go_simp
          first | done | with_reducible rfl
        refine wpAnyH_takeE (i := 7) (some 72) (v := ?_) rfl rfl (by as_aux_lemma => kernel_rfl) (by as_aux_lemma => kernel_rfl) (by as_aux_lemma => kernel_rfl) (fun _ _ _ h => h) (Or.inl ⟨by kernel_rfl, ?_⟩) hS ?_
        rotate_left
        · intro w hSw; have e1 := HBy.out _ hSw; go_simp
          first | done | with_reducible rfl
        refine wpAnyH_takeE (i := 8) (some 73) (v := ?_) rfl rfl (by as_aux_lemma => kernel_rfl) (by as_aux_lemma => kernel_rfl) (by as_aux_lemma => kernel_rfl) (fun _ _ _ h => h) (Or.inl ⟨by kernel_rfl, ?_⟩) hS ?_
        rotate_left
        · intro w hSw; have e1 := HBy.out _ hSw; go_simp
          first | done | with_reducible rfl
        refine wpAnyH_takeE (i := 9) (some 74) (v := ?_) rfl rfl (by as_aux_lemma => kernel_rfl) (by as_aux_lemma => kernel_rfl) (by as_aux_lemma => kernel_rfl) (fun _ _ _ h => h) (Or.inl ⟨by kernel_rfl, ?_⟩) hS ?_
        rotate_left
        · intro w hSw; have e1 := HBy.out _ hSw; go_simp
          first | done | with_reducible rfl
        (try simp only [Act.put, List.setIfInBounds_toArray, List.set_cons_zero, List.set_cons_succ])
        refine wpAnyH_takeE (i := 10) (some 75) (v := ?_) rfl rfl (by as_aux_lemma => kernel_rfl) (by as_aux_lemma => kernel_rfl) (by as_aux_lemma => kernel_rfl) (fun _ _ _ h => h) (Or.inl ⟨by kernel_rfl, ?_⟩) hS ?_
        rotate_left
        · intro w hSw; have e1 := HBy.out _ hSw; go_simp
          first | done | with_reducible rfl
        refine wpAnyH_ready (rs := [3]) (by as_aux_lemma => kernel_rfl) (by simp) ?_
        refine AllReadyH.cons rfl (fun K hK => ?_) AllReadyH.nil
        go_simp
        refine hK.out _ _ hS (fun hS => ?_)
        clear hK K
        refine wpAnyH_takeE (i := 11) (some 76) (v := ?_) rfl rfl (by as_aux_lemma => kernel_rfl) (by as_aux_lemma => kernel_rfl) (by as_aux_lemma => kernel_rfl) (fun _ _ _ h => h) (Or.inl ⟨by kernel_rfl, ?_⟩) hS ?_
        rotate_left
        · intro w hSw; skip; go_simp
          first | done | with_reducible rfl
        refine wpAnyH_takeE (i := 12) (some 77) (v := ?_) rfl rfl (by as_aux_lemma => kernel_rfl) (by as_aux_lemma => kernel_rfl) (by as_aux_lemma => kernel_rfl) (fun _ _ _ h => h) (Or.inl ⟨by kernel_rfl, ?_⟩) hS ?_
        rotate_left
        · intro w hSw; skip; go_simp
          first | done | with_reducible rfl
        refine wpAnyH_takeE (i := 13) (some 78) (v := ?_) rfl rfl (by as_aux_lemma => kernel_rfl) (by as_aux_lemma => kernel_rfl) (by as_aux_lemma => kernel_rfl) (fun _ _ _ h => h) (Or.inl ⟨by kernel_rfl, ?_⟩) hS ?_
        rotate_left
        · intro w hSw; skip; go_simp
          first | done | with_reducible rfl
        (try simp only [Act.put, List.setIfInBounds_toArray, List.set_cons_zero, List.set_cons_succ])
        have hg3 : w2.grownBy ((w2.setCell ⟨B, 14, none⟩ (.int .i64 (now + by64))).drew) (some B) := (grownBy_setCell w2 B 14 _).trans (grownBy_drewN _ 1 _)
        have HS3 : Hid (WSt W ((w2.setCell ⟨B, 14, none⟩ (.int .i64 (now + by64))).drew) B b d P T R U (now + by64) a nn c x y z) := Lib.hid ((HS2.out.storeN _).on ((Below.refl _ _).drew))
        refine wpAnyH_ready (rs := [14]) (by as_aux_lemma => kernel_rfl) (by simp) ?_
        refine AllReadyH.cons rfl (fun K hK => ?_) AllReadyH.nil
        go_simp
        refine hK.out _ _ hg3 (fun hS => ?_)
        clear hK K pn pf hg3
        refine wpAnyH_done (by kernel_rfl) ?_ _
        (try simp only [Act.put, List.setIfInBounds_toArray, List.set_cons_zero, List.set_cons_succ])
        clear p0 e0 e1 e2 e3 e4 e5 e6 HS2 HBy hS kby kby2 kby3 kby4
        generalize (w2.setCell ⟨B, 14, none⟩ (.int .i64 (now + by64))).drew = w3 at *
        generalize now + by64 = now3 at *
        obtain ⟨e0, e1, e2, e3, e4, e5, e6⟩ := HRow.out _ HS3.out.st.below
        go_wp2_with fail
        have HTk := Lib.hid ((HS3.out.st.on ((Below.refl _ w3).drew)).tick now3 A.d HFit.out.d)
        have HC : Hid (∀ u, Grown2 w3 u b d → (u.cell? ⟨B, 0, none⟩ = some (.pointer (some ⟨b, 0, none⟩)) ∧ u.cell? ⟨B, 1, none⟩ = some (.pointer (some ⟨d, 0, none⟩)) ∧ u.cell? ⟨B, 14, none⟩ = some (.int .i64 now3)) ∧ u.cell? ⟨ba, oa + i * 7 + 2, none⟩ = some (.int .u32 (A.d : Int))) := Lib.hid (fun u g => by
          have h := (HS3.out.blk.of (g.block B HS3.out.blk.lt HS3.out.nb HS3.out.nd)).at
          exact ⟨⟨h.p0, h.p1, h.now⟩, (HRow.out _ (Below.grown2 HS3.out.st.below g HS3.out.st.below.size HS3.out.st.lb HS3.out.st.ld)).c2⟩)
        refine wp_region_any (by kernel_rfl) ?_
        change wpAny _ _ _ _ _ _ _ (World.drew _)
        have hS : (fun w' : World => Grown2 w3 w' b d) w3.drew := ⟨rfl, rfl, rfl, Nat.le_refl _, fun _ _ _ _ => rfl⟩
        refine wpAny_of_held (S := fun w' => Grown2 w3 w' b d) _ _ _ _ ?_
        refine wpAnyH_takeE (i := 0) (some 80) (v := ?_) rfl rfl (by as_aux_lemma => kernel_rfl) (by as_aux_lemma => kernel_rfl) (by as_aux_lemma => kernel_rfl) (fun _ _ _ h => h) (Or.inl ⟨by kernel_rfl, ?_⟩) hS ?_
        rotate_left
        · intro w hSw; obtain ⟨⟨p0, p1, pn⟩, e2⟩ := HC.out _ hSw; go_simp
          first | done | with_reducible rfl
        refine wpAnyH_takeE (i := 1) (some 81) (v := ?_) rfl rfl (by as_aux_lemma => kernel_rfl) (by as_aux_lemma => kernel_rfl) (by as_aux_lemma => kernel_rfl) (fun _ _ _ h => h) (Or.inl ⟨by kernel_rfl, ?_⟩) hS ?_
        rotate_left
        · intro w hSw; obtain ⟨⟨p0, p1, pn⟩, e2⟩ := HC.out _ hSw; go_simp
          first | done | with_reducible rfl
        refine wpAnyH_takeE (i := 2) (some 82) (v := ?_) rfl rfl (by as_aux_lemma => kernel_rfl) (by as_aux_lemma => kernel_rfl) (by as_aux_lemma => kernel_rfl) (fun _ _ _ h => h) (Or.inl ⟨by kernel_rfl, ?_⟩) hS ?_
        rotate_left
        · intro w hSw; obtain ⟨⟨p0, p1, pn⟩, e2⟩ := HC.out _ hSw; go_simp
          first | done | with_reducible rfl
        refine wpAnyH_takeE (i := 3) (some 83) (v := ?_) rfl rfl (by as_aux_lemma => kernel_rfl) (by as_aux_lemma => kernel_rfl) (by as_aux_lemma => kernel_rfl) (fun _ _ _ h => h) (Or.inl ⟨by kernel_rfl, ?_⟩) hS ?_
        rotate_left
        · intro w hSw; obtain ⟨⟨p0, p1, pn⟩, e2⟩ := HC.out _ hSw; go_simp
          first | done | with_reducible rfl
        (try simp only [Act.put, List.setIfInBounds_toArray, List.set_cons_zero, List.set_cons_succ])
        refine wpAnyH_takeE (i := 4) (some 84) (v := ?_) rfl rfl (by as_aux_lemma => kernel_rfl) (by as_aux_lemma => kernel_rfl) (by as_aux_lemma => kernel_rfl) (fun _ _ _ h => h) (Or.inl ⟨by kernel_rfl, ?_⟩) hS ?_
        rotate_left
        · intro w hSw; obtain ⟨⟨p0, p1, pn⟩, e2⟩ := HC.out _ hSw; go_simp
          first | done | with_reducible rfl
        refine wpAnyH_takeE (i := 5) (some 85) (v := ?_) rfl rfl (by as_aux_lemma => kernel_rfl) (by as_aux_lemma => kernel_rfl) (by as_aux_lemma => kernel_rfl) (fun _ _ _ h => h) (Or.inl ⟨by kernel_rfl, ?_⟩) hS ?_
        rotate_left
        · intro w hSw; obtain ⟨⟨p0, p1, pn⟩, e2⟩ := HC.out _ hSw; go_simp
          first | done | with_reducible rfl
        refine wpAnyH_takeE (i := 6) (some 86) (v := ?_) rfl rfl (by as_aux_lemma => kernel_rfl) (by as_aux_lemma => kernel_rfl) (by as_aux_lemma => kernel_rfl) (fun _ _ _ h => h) (Or.inl ⟨by kernel_rfl, ?_⟩) hS ?_
        rotate_left
        · intro w hSw; obtain ⟨⟨p0, p1, pn⟩, e2⟩ := HC.out _ hSw; go_simp
          first | done | with_reducible rfl
        refine wpAnyH_takeE (i := 7) (some 87) (v := ?_) rfl rfl (by as_aux_lemma => kernel_rfl) (by as_aux_lemma => kernel_rfl) (by as_aux_lemma => kernel_rfl) (fun _ _ _ h => h) (Or.inl ⟨by kernel_rfl, ?_⟩) hS ?_
        rotate_left
        · intro w hSw; obtain ⟨⟨p0, p1, pn⟩, e2⟩ := HC.out _ hSw; go_simp
          first | done | with_reducible rfl
        (try simp only [Act.put, List.setIfInBounds_toArray, List.set_cons_zero, List.set_cons_succ])
        refine wpAnyH_takeE (i := 8) (some 88) (v := ?_) rfl rfl (by as_aux_lemma => kernel_rfl) (by as_aux_lemma => kernel_rfl) (by as_aux_lemma => kernel_rfl) (fun _ _ _ h => h) (Or.inl ⟨by kernel_rfl, ?_⟩) hS ?_
        rotate_left
        · intro w hSw; obtain ⟨⟨p0, p1, pn⟩, e2⟩ := HC.out _ hSw; go_simp
          first | done | with_reducible rfl
        refine wpAnyH_takeE (i := 9) (some 89) (v := ?_) rfl rfl (by as_aux_lemma => kernel_rfl) (by as_aux_lemma => kernel_rfl) (by as_aux_lemma => kernel_rfl) (fun _ _ _ h => h) (Or.inl ⟨by kernel_rfl, ?_⟩) hS ?_
        rotate_left
        · intro w hSw; obtain ⟨⟨p0, p1, pn⟩, e2⟩ := HC.out _ hSw; go_simp
          first | done | with_reducible rfl
        refine wpAnyH_takeE (i := 10) (some 90) (v := ?_) rfl rfl (by as_aux_lemma => kernel_rfl) (by as_aux_lemma => kernel_rfl) (by as_aux_lemma => kernel_rfl) (fun _ _ _ h => h) (Or.inl ⟨by kernel_rfl, ?_⟩) hS ?_
        rotate_left
        · intro w hSw; obtain ⟨⟨p0, p1, pn⟩, e2⟩ := HC.out _ hSw; go_simp
          first | done | with_reducible rfl
        refine wpAnyH_takeE (i := 11) (some 91) (v := ?_) rfl rfl (by as_aux_lemma => kernel_rfl) (by as_aux_lemma => kernel_rfl) (by as_aux_lemma => kernel_rfl) (fun _ _ _ h => h) (Or.inl ⟨by kernel_rfl, ?_⟩) hS ?_
        rotate_left
        · intro w hSw; obtain ⟨⟨p0, p1, pn⟩, e2⟩ := HC.out _ hSw; go_simp
          first | done | with_reducible rfl
        (try simp only [Act.put, List.setIfInBounds_toArray, List.set_cons_zero, List.set_cons_succ])
        refine wpAnyH_takeE (i := 12) (some 92) (v := ?_) rfl rfl (by as_aux_lemma => kernel_rfl) (by as_aux_lemma => kernel_rfl) (by as_aux_lemma => kernel_rfl) (fun _ _ _ h => h) (Or.inl ⟨by kernel_rfl, ?_⟩) hS ?_
        rotate_left
        · intro w hSw; obtain ⟨⟨p0, p1, pn⟩, e2⟩ := HC.out _ hSw; go_simp
          first | done | with_reducible rfl
        refine wpAnyH_takeE (i := 13) (some 93) (v := ?_) rfl rfl (by as_aux_lemma => kernel_rfl) (by as_aux_lemma => kernel_rfl) (by as_aux_lemma => kernel_rfl) (fun _ _ _ h => h) (Or.inl ⟨by kernel_rfl, ?_⟩) hS ?_
        rotate_left
        · intro w hSw; obtain ⟨⟨p0, p1, pn⟩, e2⟩ := HC.out _ hSw; go_simp
          first | done | with_reducible rfl
        refine wpAnyH_takeE (i := 14) (some 94) (v := ?_) rfl rfl (by as_aux_lemma => kernel_rfl) (by as_aux_lemma => kernel_rfl) (by as_aux_lemma => kernel_rfl) (fun _ _ _ h => h) (Or.inl ⟨by kernel_rfl, ?_⟩) hS ?_
        rotate_left
        · intro w hSw; obtain ⟨⟨p0, p1, pn⟩, e2⟩ := HC.out _ hSw; go_simp
          first | done | with_reducible rfl
        refine wpAnyH_takeE (i := 15) (some 95) (v := ?_) rfl rfl (by as_aux_lemma => kernel_rfl) (by as_aux_lemma => kernel_rfl) (by as_aux_lemma => kernel_rfl) (fun _ _ _ h => h) (Or.inl ⟨by kernel_rfl, ?_⟩) hS ?_
        rotate_left
        · intro w hSw; obtain ⟨⟨p0, p1, pn⟩, e2⟩ := HC.out _ hSw; go_simp
          first | done | with_reducible rfl
        (try simp only [Act.put, List.setIfInBounds_toArray, List.set_cons_zero, List.set_cons_succ])
        refine wpAnyH_takeE (i := 16) (some 96) (v := ?_) rfl rfl (by as_aux_lemma => kernel_rfl) (by as_aux_lemma => kernel_rfl) (by as_aux_lemma => kernel_rfl) (fun _ _ _ h => h) (Or.inl ⟨by kernel_rfl, ?_⟩) hS ?_
        rotate_left
        · intro w hSw; obtain ⟨⟨p0, p1, pn⟩, e2⟩ := HC.out _ hSw; go_simp
          first | done | with_reducible rfl
        refine wpAnyH_ready (rs := [17]) (by as_aux_lemma => kernel_rfl) (by simp) ?_
        refine AllReadyH.cons rfl (fun K hK => ?_) AllReadyH.nil
        go_simp
        go_wp2_with (go_at_call 15; refine HTk.out.mono ?_; rintro e w4 ⟨a4, n4, c4, a5, n5, c5, rfl, o4, m4, hn5, s4, g4⟩; replace o4 := Lib.hid o4; replace s4 := Lib.hid s4; clear m4 hn5)
        refine hK.out _ _ ?_ (fun hS => ?_)
        · exact hS.trans g4
        clear hK K
        refine wpAnyH_takeE (i := 18) (some 79) (v := ?_) rfl rfl (by as_aux_lemma => kernel_rfl) (by as_aux_lemma => kernel_rfl) (by as_aux_lemma => kernel_rfl) (fun _ _ _ h => h) (Or.inl ⟨by kernel_rfl, ?_⟩) hS ?_
        rotate_left
        · intro w hSw; skip; go_simp
          first | done | with_reducible rfl
        refine wpAnyH_takeE (i := 19) (some 98) (v := ?_) rfl rfl (by as_aux_lemma => kernel_rfl) (by as_aux_lemma => kernel_rfl) (by as_aux_lemma => kernel_rfl) (fun _ _ _ h => h) (Or.inl ⟨by kernel_rfl, ?_⟩) hS ?_
        rotate_left
        · intro w hSw; skip; go_simp
          first | done | with_reducible rfl
        refine wpAnyH_takeE (i := 20) (some 99) (v := ?_) rfl rfl (by as_aux_lemma => kernel_rfl) (by as_aux_lemma => kernel_rfl) (by as_aux_lemma => kernel_rfl) (fun _ _ _ h => h) (Or.inl ⟨by kernel_rfl, ?_⟩) hS ?_
        rotate_left
        · intro w hSw; skip; go_simp
          first | done | with_reducible rfl
        (try simp only [Act.put, List.setIfInBounds_toArray, List.set_cons_zero, List.set_cons_succ])
        refine wpAnyH_takeE (i := 21) (some 10) (v := ?_) rfl rfl (by as_aux_lemma => kernel_rfl) (by as_aux_lemma => kernel_rfl) (by as_aux_lemma => kernel_rfl) (fun _ _ _ h => h) (Or.inl ⟨by kernel_rfl, ?_⟩) hS ?_
        rotate_left
        · intro w hSw; skip; go_simp
          first | done | with_reducible rfl
        refine wpAnyH_takeE (i := 22) (some 11) (v := ?_) rfl rfl (by as_aux_lemma => kernel_rfl) (by as_aux_lemma => kernel_rfl) (by as_aux_lemma => kernel_rfl) (fun _ _ _ h => h) (Or.inl ⟨by kernel_rfl, ?_⟩) hS ?_
        rotate_left
        · intro w hSw; skip; go_simp
          first | done | with_reducible rfl
        refine wpAnyH_done (by kernel_rfl) ?_ _
        (try simp only [Act.put, List.setIfInBounds_toArray, List.set_cons_zero, List.set_cons_succ])
        have HS4 := Lib.hid (HS3.out.prog hS s4.out)
        obtain ⟨t1, t2, t3⟩ := tick_outs HS3.out.st.tok HS3.out.st.pok HX.out.2.2.2.2.2 now3 A.d
        have HT1 := Lib.hid t1
        have HT2 := Lib.hid t2
        have HT3 := Lib.hid t3
        clear t1 t2 t3 HC HTk HS3 s4 g4 hS e0 e1 e2 e3 e4 e5 e6 HS
        generalize tickAny P T now3 A.d = K at *
        obtain ⟨KP, KT, Ko, Kn⟩ := K
        dsimp only at HS4 HT2 HT3 o4
        have kL := HV.out.2.2.1
        rcases HT1.out with ⟨ho, hq⟩ | ⟨oo, ho, -, -, -, -, hkd⟩
        · have ho' : Ko = [] := ho
          subst ho'
          obtain ⟨rfl, rfl, rfl⟩ := o4.out.none
          have HP := Lib.hid (And.intro (HT3.out.trans HX.out.1) (And.intro (show KP.qs = (L : Int) from hq.trans HX.out.2.1) (And.intro HV.out.1 (And.intro HT9.out.1 (And.intro HT9.out.2 HT2.out)))))
          clear HT1 HT2 HT3 hq ho o4
          go_wp2
          refine wp_loop_rounds 1 ?_
          rw [rounds_succ]
          obtain ⟨q9, z9, r9, hask9⟩ : ∃ q z r, askedR KP = (q, z, r) := ⟨_, _, _, rfl⟩
          have HAs9 := Lib.hid (pbAsked_any b KP w4 HS4.out.st.pb q9 z9 r9 hask9)
          have HZ9 : Hid (r9 = true → z9 = ((L : Nat) : Int)) := Lib.hid (fun hr => by
            have hq : KP.qs = ((L : Nat) : Int) := HP.out.2.1
            unfold askedR at hask9
            split at hask9
            · simp only [Prod.mk.injEq] at hask9
              rw [← hask9.2.1, hq]
            · simp only [Prod.mk.injEq] at hask9
              rw [← hask9.2.2] at hr
              cases hr)
          clear hask9
          have p9 := HS4.out.blk.at.p0
          go_wp2_with (go_at_call 17; refine HAs9.out.mono ?_; rintro e w9 ⟨rfl, q9x⟩; replace q9x := Lib.hid q9x; refine Hid.out ?_)
          refine Lib.hid ?_
          clear p9
          have HN9 : Hid (RiseSt W w9 B b d KP now3 (i + 1) L) := Lib.hid ⟨_, _, _, _, _, _, _, _, _, HS4.out.on q9x.out, HP.out.1, HP.out.2.1, HP.out.2.2.1, HP.out.2.2.2.1, HP.out.2.2.2.2.1, HP.out.2.2.2.2.2⟩
          clear HS4 HP HAs9 q9x
          cases r9 with
          | true =>
            obtain rfl := HZ9.out (by trivial)
            clear HZ9
            go_wp2
            go_roundw
            case rel => exact ⟨i + 1, L, _, _, by omega, by go_num, rfl, HN9⟩
            case measure => simp [intOf]; omega
          | false =>
            clear HZ9
            go_wp2
            go_roundw
            case rel => exact ⟨i + 1, L, _, _, by omega, by go_num, rfl, HN9⟩
            case measure => simp [intOf]; omega
        · have ho' : Ko = [oo] := ho
          subst ho'
          obtain ⟨gg, rfl, rfl, -, -, x0, x1, x2, x3, x4⟩ := o4.out.one
          obtain ⟨oto, okd, ofr, oab, osq⟩ := oo
          dsimp only at x0 x1 x2 x3 x4 hkd
          rcases hkd with ⟨rfl, -, hq⟩ | ⟨rfl, -, rfl, hq⟩
          · have HP := Lib.hid (And.intro (HT3.out.trans HX.out.1) (And.intro (show KP.qs = (L : Int) from hq.trans HX.out.2.1) (And.intro HV.out.1 (And.intro HT9.out.1 (And.intro HT9.out.2 HT2.out)))))
            clear HT1 HT2 HT3 hq ho o4
            go_wp2
            refine wp_loop_rounds 2 ?_
            rw [rounds_succ]
            go_wp2
            rw [rounds_succ]
            obtain ⟨q9, z9, r9, hask9⟩ : ∃ q z r, askedR KP = (q, z, r) := ⟨_, _, _, rfl⟩
            have HAs9 := Lib.hid (pbAsked_any b KP w4 HS4.out.st.pb q9 z9 r9 hask9)
            have HZ9 : Hid (r9 = true → z9 = ((L : Nat) : Int)) := Lib.hid (fun hr => by
              have hq : KP.qs = ((L : Nat) : Int) := HP.out.2.1
              unfold askedR at hask9
              split at hask9
              · simp only [Prod.mk.injEq] at hask9
                rw [← hask9.2.1, hq]
              · simp only [Prod.mk.injEq] at hask9
                rw [← hask9.2.2] at hr
                cases hr)
            clear hask9
            have p9 := HS4.out.blk.at.p0
            go_wp2_with (go_at_call 17; refine HAs9.out.mono ?_; rintro e w9 ⟨rfl, q9x⟩; replace q9x := Lib.hid q9x; refine Hid.out ?_)
            refine Lib.hid ?_
            clear p9
            have HN9 : Hid (RiseSt W w9 B b d KP now3 (i + 1) L) := Lib.hid ⟨_, _, _, _, _, _, _, _, _, HS4.out.on q9x.out, HP.out.1, HP.out.2.1, HP.out.2.2.1, HP.out.2.2.2.1, HP.out.2.2.2.2.1, HP.out.2.2.2.2.2⟩
            clear HS4 HP HAs9 q9x
            cases r9 with
            | true =>
              obtain rfl := HZ9.out (by trivial)
              clear HZ9
              go_wp2
              go_roundw
              case rel => exact ⟨i + 1, L, _, _, by omega, by go_num, rfl, HN9⟩
              case measure => simp [intOf]; omega
            | false =>
              clear HZ9
              go_wp2
              go_roundw
              case rel => exact ⟨i + 1, L, _, _, by omega, by go_num, rfl, HN9⟩
              case measure => simp [intOf]; omega
          · have hq2 : KP.qs = ((L + 1 : Nat) : Int) := by have h1 : KP.qs = wrap64 (P.qs + 1) := hq; rw [h1, HX.out.2.1, kL]; exact HV.out.2.2.2.1
            rw [HX.out.2.1, kL] at x4
            have HP := Lib.hid (And.intro (HT3.out.trans HX.out.1) (And.intro hq2 (And.intro HV.out.2.1 (And.intro HT9.out.1 (And.intro HT9.out.2 HT2.out)))))
            clear HT1 HT2 HT3 hq ho o4 hq2
            go_wp2
            refine wp_loop_rounds 2 ?_
            rw [rounds_succ]
            go_wp2
            rw [rounds_succ]
            obtain ⟨q9, z9, r9, hask9⟩ : ∃ q z r, askedR KP = (q, z, r) := ⟨_, _, _, rfl⟩
            have HAs9 := Lib.hid (pbAsked_any b KP w4 HS4.out.st.pb q9 z9 r9 hask9)
            have HZ9 : Hid (r9 = true → z9 = (((L + 1) : Nat) : Int)) := Lib.hid (fun hr => by
              have hq : KP.qs = (((L + 1) : Nat) : Int) := HP.out.2.1
              unfold askedR at hask9
              split at hask9
              · simp only [Prod.mk.injEq] at hask9
                rw [← hask9.2.1, hq]
              · simp only [Prod.mk.injEq] at hask9
                rw [← hask9.2.2] at hr
                cases hr)
            clear hask9
            have p9 := HS4.out.blk.at.p0
            go_wp2_with (go_at_call 17; refine HAs9.out.mono ?_; rintro e w9 ⟨rfl, q9x⟩; replace q9x := Lib.hid q9x; refine Hid.out ?_)
            refine Lib.hid ?_
            clear p9
            have HN9 : Hid (RiseSt W w9 B b d KP now3 (i + 1) (L + 1)) := Lib.hid ⟨_, _, _, _, _, _, _, _, _, HS4.out.on q9x.out, HP.out.1, HP.out.2.1, HP.out.2.2.1, HP.out.2.2.2.1, HP.out.2.2.2.2.1, HP.out.2.2.2.2.2⟩
            clear HS4 HP HAs9 q9x
            cases r9 with
            | true =>
              obtain rfl := HZ9.out (by trivial)
              clear HZ9
              go_wp2
              go_roundw
              case rel => exact ⟨i + 1, (L + 1), _, _, by omega, by go_num, rfl, HN9⟩
              case measure => simp [intOf]; omega
            | false =>
              clear HZ9
              go_wp2
              go_roundw
              case rel => exact ⟨i + 1, (L + 1), _, _, by omega, by go_num, rfl, HN9⟩
              case measure => simp [intOf]; omega
    | 2, _ =>
      have hak : ackB P A.m.n A.s = (r0 && ((q0 == A.m.n) && (z0 == A.s))) := by
        have h := HAsk.out
        unfold askedR at h
        unfold ackB
        cases hq : P.qo with
        | false =>
          simp only [hq, Bool.false_eq_true, if_false, Prod.mk.injEq] at h
          obtain ⟨rfl, rfl, rfl⟩ := h
          rfl
        | true =>
          simp only [hq, if_true, Prod.mk.injEq] at h
          obtain ⟨rfl, rfl, rfl⟩ := h
          rfl
      have HAk := Lib.hid hak
      clear hak
      cases r0 with
      | false =>
        rw [Bool.false_and] at HAk
        as_aux_lemma =>
          go_wp2_with (go_at_call 17; refine HAs.out.mono ?_; rintro e w2 ⟨rfl, q2⟩; replace q2 := Lib.hid q2; refine Hid.out ?_)
          refine Lib.hid ?_
          clear p0 e0 e1 e2 e3 e4 e5 e6
          have HS2 := Lib.hid (HS.out.on q2.out)
          obtain ⟨e0, e1, e2, e3, e4, e5, e6⟩ := HRow.out _ HS2.out.st.below
          have p0 := HS2.out.blk.at.p0
          go_wp2_with fail
          have HW := Lib.hid (pbAck_any b P A.m.n A.s w2.drew HS2.out.st.pb)
          rw [HAk.out] at HW
          have HC : Hid (∀ u, Grown2 w2 u b d → u.cell? ⟨B, 0, none⟩ = some (.pointer (some ⟨b, 0, none⟩)) ∧ u.cell? ⟨ba, oa + i * 7 + 3, none⟩ = some (.int .u16 A.m.n) ∧ u.cell? ⟨ba, oa + i * 7 + 6, none⟩ = some (.int .i64 A.s)) := Lib.hid (fun u g => by
            have h := (HS2.out.blk.of (g.block B HS2.out.blk.lt HS2.out.nb HS2.out.nd)).at
            have ha := HRow.out _ (Below.grown2 HS2.out.st.below g HS2.out.st.below.size HS2.out.st.lb HS2.out.st.ld)
            exact ⟨h.p0, ha.c3, ha.c6⟩)
          refine wp_region_any (by kernel_rfl) ?_
          change wpAny _ _ _ _ _ _ _ (World.drew _)
          have hS : (fun w' : World => Grown2 w2 w' b d) w2.drew := ⟨rfl, rfl, rfl, Nat.le_refl _, fun _ _ _ _ => rfl⟩
          refine wpAny_of_held (S := fun w' => Grown2 w2 w' b d) _ _ _ _ ?_
          refine wpAnyH_takeE (i := 0) (some 126) (v := ?_) rfl rfl (by as_aux_lemma => kernel_rfl) (by as_aux_lemma => kernel_rfl) (by as_aux_lemma => kernel_rfl) (fun _ _ _ h => h) (Or.inl ⟨by kernel_rfl, ?_⟩) hS ?_
          rotate_left
          · intro w hSw; obtain ⟨p0, e3, e6⟩ := HC.out _ hSw; go_simp
            first | done | with_reducible rfl
          refine wpAnyH_takeE (i := 1) (some 127) (v := ?_) rfl rfl (by as_aux_lemma => kernel_rfl) (by as_aux_lemma => kernel_rfl) (by as_aux_lemma => kernel_rfl) (fun _ _ _ h => h) (Or.inl ⟨by kernel_rfl, ?_⟩) hS ?_
          rotate_left
          · intro w hSw; obtain ⟨p0, e3, e6⟩ := HC.out _ hSw; go_simp
            first | done | with_reducible rfl
          (try simp only [Act.put, List.setIfInBounds_toArray, List.set_cons_zero, List.set_cons_succ])
          refine wpAnyH_takeE (i := 2) (some 128) (v := ?_) rfl rfl (by as_aux_lemma => kernel_rfl) (by as_aux_lemma => kernel_rfl) (by as_aux_lemma => kernel_rfl) (fun _ _ _ h => h) (Or.inl ⟨by kernel_rfl, ?_⟩) hS ?_
          rotate_left
          · intro w hSw; obtain ⟨p0, e3, e6⟩ := HC.out _ hSw; go_simp
            first | done | with_reducible rfl
          refine wpAnyH_takeE (i := 3) (some 129) (v := ?_) rfl rfl (by as_aux_lemma => kernel_rfl) (by as_aux_lemma => kernel_rfl) (by as_aux_lemma => kernel_rfl) (fun _ _ _ h => h) (Or.inl ⟨by kernel_rfl, ?_⟩) hS ?_
          rotate_left
          · intro w hSw; obtain ⟨p0, e3, e6⟩ := HC.out _ hSw; go_simp
            first | done | with_reducible rfl
          refine wpAnyH_takeE (i := 4) (some 130) (v := ?_) rfl rfl (by as_aux_lemma => kernel_rfl) (by as_aux_lemma => kernel_rfl) (by as_aux_lemma => kernel_rfl) (fun _ _ _ h => h) (Or.inl ⟨by kernel_rfl, ?_⟩) hS ?_
          rotate_left
          · intro w hSw; obtain ⟨p0, e3, e6⟩ := HC.out _ hSw; go_simp
            first | done | with_reducible rfl
          refine wpAnyH_takeE (i := 5) (some 131) (v := ?_) rfl rfl (by as_aux_lemma => kernel_rfl) (by as_aux_lemma => kernel_rfl) (by as_aux_lemma => kernel_rfl) (fun _ _ _ h => h) (Or.inl ⟨by kernel_rfl, ?_⟩) hS ?_
          rotate_left
          · intro w hSw; obtain ⟨p0, e3, e6⟩ := HC.out _ hSw; go_simp
            first | done | with_reducible rfl
          (try simp only [Act.put, List.setIfInBounds_toArray, List.set_cons_zero, List.set_cons_succ])
          refine wpAnyH_takeE (i := 6) (some 132) (v := ?_) rfl rfl (by as_aux_lemma => kernel_rfl) (by as_aux_lemma => kernel_rfl) (by as_aux_lemma => kernel_rfl) (fun _ _ _ h => h) (Or.inl ⟨by kernel_rfl, ?_⟩) hS ?_
          rotate_left
          · intro w hSw; obtain ⟨p0, e3, e6⟩ := HC.out _ hSw; go_simp
            first | done | with_reducible rfl
          refine wpAnyH_takeE (i := 7) (some 133) (v := ?_) rfl rfl (by as_aux_lemma => kernel_rfl) (by as_aux_lemma => kernel_rfl) (by as_aux_lemma => kernel_rfl) (fun _ _ _ h => h) (Or.inl ⟨by kernel_rfl, ?_⟩) hS ?_
          rotate_left
          · intro w hSw; obtain ⟨p0, e3, e6⟩ := HC.out _ hSw; go_simp
            first | done | with_reducible rfl
          refine wpAnyH_takeE (i := 8) (some 134) (v := ?_) rfl rfl (by as_aux_lemma => kernel_rfl) (by as_aux_lemma => kernel_rfl) (by as_aux_lemma => kernel_rfl) (fun _ _ _ h => h) (Or.inl ⟨by kernel_rfl, ?_⟩) hS ?_
          rotate_left
          · intro w hSw; obtain ⟨p0, e3, e6⟩ := HC.out _ hSw; go_simp
            first | done | with_reducible rfl
          refine wpAnyH_takeE (i := 9) (some 135) (v := ?_) rfl rfl (by as_aux_lemma => kernel_rfl) (by as_aux_lemma => kernel_rfl) (by as_aux_lemma => kernel_rfl) (fun _ _ _ h => h) (Or.inl ⟨by kernel_rfl, ?_⟩) hS ?_
          rotate_left
          · intro w hSw; obtain ⟨p0, e3, e6⟩ := HC.out _ hSw; go_simp
            first | done | with_reducible rfl
          (try simp only [Act.put, List.setIfInBounds_toArray, List.set_cons_zero, List.set_cons_succ])
          refine wpAnyH_takeE (i := 10) (some 136) (v := ?_) rfl rfl (by as_aux_lemma => kernel_rfl) (by as_aux_lemma => kernel_rfl) (by as_aux_lemma => kernel_rfl) (fun _ _ _ h => h) (Or.inl ⟨by kernel_rfl, ?_⟩) hS ?_
          rotate_left
          · intro w hSw; obtain ⟨p0, e3, e6⟩ := HC.out _ hSw; go_simp
            first | done | with_reducible rfl
          refine wpAnyH_takeE (i := 11) (some 137) (v := ?_) rfl rfl (by as_aux_lemma => kernel_rfl) (by as_aux_lemma => kernel_rfl) (by as_aux_lemma => kernel_rfl) (fun _ _ _ h => h) (Or.inl ⟨by kernel_rfl, ?_⟩) hS ?_
          rotate_left
          · intro w hSw; obtain ⟨p0, e3, e6⟩ := HC.out _ hSw; go_simp
            first | done | with_reducible rfl
          refine wpAnyH_takeE (i := 12) (some 138) (v := ?_) rfl rfl (by as_aux_lemma => kernel_rfl) (by as_aux_lemma => kernel_rfl) (by as_aux_lemma => kernel_rfl) (fun _ _ _ h => h) (Or.inl ⟨by kernel_rfl, ?_⟩) hS ?_
          rotate_left
          · intro w hSw; obtain ⟨p0, e3, e6⟩ := HC.out _ hSw; go_simp
            first | done | with_reducible rfl
          refine wpAnyH_takeE (i := 13) (some 139) (v := ?_) rfl rfl (by as_aux_lemma => kernel_rfl) (by as_aux_lemma => kernel_rfl) (by as_aux_lemma => kernel_rfl) (fun _ _ _ h => h) (Or.inl ⟨by kernel_rfl, ?_⟩) hS ?_
          rotate_left
          · intro w hSw; obtain ⟨p0, e3, e6⟩ := HC.out _ hSw; go_simp
            first | done | with_reducible rfl
          (try simp only [Act.put, List.setIfInBounds_toArray, List.set_cons_zero, List.set_cons_succ])
          refine wpAnyH_takeE (i := 14) (some 140) (v := ?_) rfl rfl (by as_aux_lemma => kernel_rfl) (by as_aux_lemma => kernel_rfl) (by as_aux_lemma => kernel_rfl) (fun _ _ _ h => h) (Or.inl ⟨by kernel_rfl, ?_⟩) hS ?_
          rotate_left
          · intro w hSw; obtain ⟨p0, e3, e6⟩ := HC.out _ hSw; go_simp
            first | done | with_reducible rfl
          refine wpAnyH_takeE (i := 16) (some 142) (v := ?_) rfl rfl (by as_aux_lemma => kernel_rfl) (by as_aux_lemma => kernel_rfl) (by as_aux_lemma => kernel_rfl) (fun _ _ _ h => h) (Or.inl ⟨by kernel_rfl, ?_⟩) hS ?_
          rotate_left
          · intro w hSw; obtain ⟨p0, e3, e6⟩ := HC.out _ hSw; go_simp
            first | done | with_reducible rfl
          refine wpAnyH_ready (rs := [15]) (by as_aux_lemma => kernel_rfl) (by simp) ?_
          refine AllReadyH.cons rfl (fun K hK => ?_) AllReadyH.nil
          go_simp
          go_wp2_with (go_at_call 18; refine HW.out.mono ?_; rintro e w3 ⟨rfl, p3, g3⟩; replace p3 := Lib.hid p3; replace g3 := Lib.hid g3)
          refine hK.out _ _ ?_ (fun hS => ?_)
          · exact hS.trans (Grown2.one g3.out)
          clear hK K
          refine wpAnyH_takeE (i := 17) (some 143) (v := ?_) rfl rfl (by as_aux_lemma => kernel_rfl) (by as_aux_lemma => kernel_rfl) (by as_aux_lemma => kernel_rfl) (fun _ _ _ h => h) (Or.inl ⟨by kernel_rfl, ?_⟩) hS ?_
          rotate_left
          · intro w hSw; obtain ⟨p0, e3, e6⟩ := HC.out _ hSw; go_simp
            first | done | with_reducible rfl
          refine wpAnyH_takeE (i := 18) (some 144) (v := undef) rfl rfl (by as_aux_lemma => kernel_rfl) (by as_aux_lemma => kernel_rfl) (by as_aux_lemma => kernel_rfl) (fun _ _ _ h => h) (Or.inr ⟨by kernel_rfl, rfl⟩) hS ?_
          (try simp only [Act.put, List.setIfInBounds_toArray, List.set_cons_zero, List.set_cons_succ])
          refine wpAnyH_takeE (i := 19) (some 145) (v := undef) rfl rfl (by as_aux_lemma => kernel_rfl) (by as_aux_lemma => kernel_rfl) (by as_aux_lemma => kernel_rfl) (fun _ _ _ h => h) (Or.inr ⟨by kernel_rfl, rfl⟩) hS ?_
          refine wpAnyH_takeE (i := 20) (some 146) (v := undef) rfl rfl (by as_aux_lemma => kernel_rfl) (by as_aux_lemma => kernel_rfl) (by as_aux_lemma => kernel_rfl) (fun _ _ _ h => h) (Or.inr ⟨by kernel_rfl, rfl⟩) hS ?_
          refine wpAnyH_takeE (i := 21) (some 147) (v := undef) rfl rfl (by as_aux_lemma => kernel_rfl) (by as_aux_lemma => kernel_rfl) (by as_aux_lemma => kernel_rfl) (fun _ _ _ h => h) (Or.inr ⟨by kernel_rfl, rfl⟩) hS ?_
          refine wpAnyH_takeE (i := 22) (some 148) (v := undef) rfl rfl (by as_aux_lemma => kernel_rfl) (by as_aux_lemma => kernel_rfl) (by as_aux_lemma => kernel_rfl) (fun _ _ _ h => h) (Or.inr ⟨by kernel_rfl, rfl⟩) hS ?_
          (try simp only [Act.put, List.setIfInBounds_toArray, List.set_cons_zero, List.set_cons_succ])
          refine wpAnyH_takeE (i := 23) (some 149) (v := undef) rfl rfl (by as_aux_lemma => kernel_rfl) (by as_aux_lemma => kernel_rfl) (by as_aux_lemma => kernel_rfl) (fun _ _ _ h => h) (Or.inr ⟨by kernel_rfl, rfl⟩) hS ?_
          refine wpAnyH_takeE (i := 24) (some 150) (v := undef) rfl rfl (by as_aux_lemma => kernel_rfl) (by as_aux_lemma => kernel_rfl) (by as_aux_lemma => kernel_rfl) (fun _ _ _ h => h) (Or.inr ⟨by kernel_rfl, rfl⟩) hS ?_
          refine wpAnyH_takeE (i := 25) (some 151) (v := undef) rfl rfl (by as_aux_lemma => kernel_rfl) (by as_aux_lemma => kernel_rfl) (by as_aux_lemma => kernel_rfl) (fun _ _ _ h => h) (Or.inr ⟨by kernel_rfl, rfl⟩) hS ?_
          refine wpAnyH_takeE (i := 26) (some 152) (v := ?_) rfl rfl (by as_aux_lemma => kernel_rfl) (by as_aux_lemma => kernel_rfl) (by as_aux_lemma => kernel_rfl) (fun _ _ _ h => h) (Or.inl ⟨by kernel_rfl, ?_⟩) hS ?_
          rotate_left
          · intro w hSw; obtain ⟨p0, e3, e6⟩ := HC.out _ hSw; go_simp
            first | done | with_reducible rfl
          (try simp only [Act.put, List.setIfInBounds_toArray, List.set_cons_zero, List.set_cons_succ])
          refine wpAnyH_takeE (i := 27) (some 153) (v := ?_) rfl rfl (by as_aux_lemma => kernel_rfl) (by as_aux_lemma => kernel_rfl) (by as_aux_lemma => kernel_rfl) (fun _ _ _ h => h) (Or.inl ⟨by kernel_rfl, ?_⟩) hS ?_
          rotate_left
          · intro w hSw; obtain ⟨p0, e3, e6⟩ := HC.out _ hSw; go_simp
            first | done | with_reducible rfl
          refine wpAnyH_takeE (i := 28) (some 154) (v := undef) rfl rfl (by as_aux_lemma => kernel_rfl) (by as_aux_lemma => kernel_rfl) (by as_aux_lemma => kernel_rfl) (fun _ _ _ h => h) (Or.inr ⟨by kernel_rfl, rfl⟩) hS ?_
          refine wpAnyH_takeE (i := 29) (some 155) (v := undef) rfl rfl (by as_aux_lemma => kernel_rfl) (by as_aux_lemma => kernel_rfl) (by as_aux_lemma => kernel_rfl) (fun _ _ _ h => h) (Or.inr ⟨by kernel_rfl, rfl⟩) hS ?_
          refine wpAnyH_takeE (i := 30) (some 156) (v := undef) rfl rfl (by as_aux_lemma => kernel_rfl) (by as_aux_lemma => kernel_rfl) (by as_aux_lemma => kernel_rfl) (fun _ _ _ h => h) (Or.inr ⟨by kernel_rfl, rfl⟩) hS ?_
          (try simp only [Act.put, List.setIfInBounds_toArray, List.set_cons_zero, List.set_cons_succ])
          refine wpAnyH_takeE (i := 31) (some 157) (v := undef) rfl rfl (by as_aux_lemma => kernel_rfl) (by as_aux_lemma => kernel_rfl) (by as_aux_lemma => kernel_rfl) (fun _ _ _ h => h) (Or.inr ⟨by kernel_rfl, rfl⟩) hS ?_
          refine wpAnyH_takeE (i := 32) (some 158) (v := undef) rfl rfl (by as_aux_lemma => kernel_rfl) (by as_aux_lemma => kernel_rfl) (by as_aux_lemma => kernel_rfl) (fun _ _ _ h => h) (Or.inr ⟨by kernel_rfl, rfl⟩) hS ?_
          refine wpAnyH_takeE (i := 33) (some 159) (v := undef) rfl rfl (by as_aux_lemma => kernel_rfl) (by as_aux_lemma => kernel_rfl) (by as_aux_lemma => kernel_rfl) (fun _ _ _ h => h) (Or.inr ⟨by kernel_rfl, rfl⟩) hS ?_
          refine wpAnyH_takeE (i := 34) (some 160) (v := undef) rfl rfl (by as_aux_lemma => kernel_rfl) (by as_aux_lemma => kernel_rfl) (by as_aux_lemma => kernel_rfl) (fun _ _ _ h => h) (Or.inr ⟨by kernel_rfl, rfl⟩) hS ?_
          (try simp only [Act.put, List.setIfInBounds_toArray, List.set_cons_zero, List.set_cons_succ])
          refine wpAnyH_takeE (i := 35) (some 161) (v := ?_) rfl rfl (by as_aux_lemma => kernel_rfl) (by as_aux_lemma => kernel_rfl) (by as_aux_lemma => kernel_rfl) (fun _ _ _ h => h) (Or.inl ⟨by kernel_rfl, ?_⟩) hS ?_
          rotate_left
          · intro w hSw; obtain ⟨p0, e3, e6⟩ := HC.out _ hSw; go_simp
            first | done | with_reducible rfl
          refine wpAnyH_takeE (i := 36) (some 162) (v := ?_) rfl rfl (by as_aux_lemma => kernel_rfl) (by as_aux_lemma => kernel_rfl) (by as_aux_lemma => kernel_rfl) (fun _ _ _ h => h) (Or.inl ⟨by kernel_rfl, ?_⟩) hS ?_
          rotate_left
          · intro w hSw; obtain ⟨p0, e3, e6⟩ := HC.out _ hSw; go_simp
            first | done | with_reducible rfl
          refine wpAnyH_done (by kernel_rfl) ?_ _
          (try simp only [Act.put, List.setIfInBounds_toArray, List.set_cons_zero, List.set_cons_succ])
          have HS3 := Lib.hid (HS2.out.prog hS ((HS2.out.st.on ((Below.refl _ w2).drew)).probe (HS2.out.st.pok.ack _ _) p3.out g3.out))
          have hsame := ackP_same P A.m.n A.s
          have HP := Lib.hid (And.intro (hsame.1.trans HX.out.1) (And.intro (hsame.2.1.trans HX.out.2.1) (And.intro HV.out.1 (And.intro HX.out.2.2.2.1 (And.intro HV.out.2.2.2.2 (hsame.2.2 HX.out.2.2.2.2.2))))))
          clear hsame HW HC HS2 HS p0 e0 e1 e2 e3 e4 e5 e6 p3 g3 hS
          generalize ackP P A.m.n A.s = PA at *
          obtain ⟨q9, z9, r9, hask9⟩ : ∃ q z r, askedR PA = (q, z, r) := ⟨_, _, _, rfl⟩
          have HAs9 := Lib.hid (pbAsked_any b PA w3 HS3.out.st.pb q9 z9 r9 hask9)
          have HZ9 : Hid (r9 = true → z9 = ((L : Nat) : Int)) := Lib.hid (fun hr => by
            have hq : PA.qs = ((L : Nat) : Int) := HP.out.2.1
            unfold askedR at hask9
            split at hask9
            · simp only [Prod.mk.injEq] at hask9
              rw [← hask9.2.1, hq]
            · simp only [Prod.mk.injEq] at hask9
              rw [← hask9.2.2] at hr
              cases hr)
          clear hask9
          have p9 := HS3.out.blk.at.p0
          go_wp2_with (go_at_call 17; refine HAs9.out.mono ?_; rintro e w9 ⟨rfl, q9x⟩; replace q9x := Lib.hid q9x; refine Hid.out ?_)
          refine Lib.hid ?_
          clear p9
          have HN9 : Hid (RiseSt W w9 B b d PA now (i + 1) L) := Lib.hid ⟨_, _, _, _, _, _, _, _, _, HS3.out.on q9x.out, HP.out.1, HP.out.2.1, HP.out.2.2.1, HP.out.2.2.2.1, HP.out.2.2.2.2.1, HP.out.2.2.2.2.2⟩
          clear HS3 HP HAs9 q9x
          cases r9 with
          | true =>
            obtain rfl := HZ9.out (by trivial)
            clear HZ9
            go_wp2
            go_roundw
            case rel => exact ⟨i + 1, L, _, _, by omega, by go_num, rfl, HN9⟩
            case measure => simp [intOf]; omega
          | false =>
            clear HZ9
            go_wp2
            go_roundw
            case rel => exact ⟨i + 1, L, _, _, by omega, by go_num, rfl, HN9⟩
            case measure => simp [intOf]; omega
      | true =>
        rw [Bool.true_and] at HAk
        cases hnd : (q0 == A.m.n) with
        | false =>
          rw [hnd, Bool.false_and] at HAk
          as_aux_lemma =>
            go_wp2_with (go_at_call 17; refine HAs.out.mono ?_; rintro e w2 ⟨rfl, q2⟩; replace q2 := Lib.hid q2; refine Hid.out ?_)
            refine Lib.hid ?_
            clear p0 e0 e1 e2 e3 e4 e5 e6
            have HS2 := Lib.hid (HS.out.on q2.out)
            obtain ⟨e0, e1, e2, e3, e4, e5, e6⟩ := HRow.out _ HS2.out.st.below
            have p0 := HS2.out.blk.at.p0
            go_wp2_with fail
            have HW := Lib.hid (pbAck_any b P A.m.n A.s w2.drew HS2.out.st.pb)
            rw [HAk.out] at HW
            have HC : Hid (∀ u, Grown2 w2 u b d → u.cell? ⟨B, 0, none⟩ = some (.pointer (some ⟨b, 0, none⟩)) ∧ u.cell? ⟨ba, oa + i * 7 + 3, none⟩ = some (.int .u16 A.m.n) ∧ u.cell? ⟨ba, oa + i * 7 + 6, none⟩ = some (.int .i64 A.s)) := Lib.hid (fun u g => by
              have h := (HS2.out.blk.of (g.block B HS2.out.blk.lt HS2.out.nb HS2.out.nd)).at
              have ha := HRow.out _ (Below.grown2 HS2.out.st.below g HS2.out.st.below.size HS2.out.st.lb HS2.out.st.ld)
              exact ⟨h.p0, ha.c3, ha.c6⟩)
            refine wp_region_any (by kernel_rfl) ?_
            change wpAny _ _ _ _ _ _ _ (World.drew _)
            have hS : (fun w' : World => Grown2 w2 w' b d) w2.drew := ⟨rfl, rfl, rfl, Nat.le_refl _, fun _ _ _ _ => rfl⟩
            refine wpAny_of_held (S := fun w' => Grown2 w2 w' b d) _ _ _ _ ?_
            refine wpAnyH_takeE (i := 0) (some 126) (v := ?_) rfl rfl (by as_aux_lemma => kernel_rfl) (by as_aux_lemma => kernel_rfl) (by as_aux_lemma => kernel_rfl) (fun _ _ _ h => h) (Or.inl ⟨by kernel_rfl, ?_⟩) hS ?_
            rotate_left
            · intro w hSw; obtain ⟨p0, e3, e6⟩ := HC.out _ hSw; go_simp
              first | done | with_reducible rfl
            refine wpAnyH_takeE (i := 1) (some 127) (v := ?_) rfl rfl (by as_aux_lemma => kernel_rfl) (by as_aux_lemma => kernel_rfl) (by as_aux_lemma => kernel_rfl) (fun _ _ _ h => h) (Or.inl ⟨by kernel_rfl, ?_⟩) hS ?_
            rotate_left
            · intro w hSw; obtain ⟨p0, e3, e6⟩ := HC.out _ hSw; go_simp
              first | done | with_reducible rfl
            (try simp only [Act.put, List.setIfInBounds_toArray, List.set_cons_zero, List.set_cons_succ])
            refine wpAnyH_takeE (i := 2) (some 128) (v := ?_) rfl rfl (by as_aux_lemma => kernel_rfl) (by as_aux_lemma => kernel_rfl) (by as_aux_lemma => kernel_rfl) (fun _ _ _ h => h) (Or.inl ⟨by kernel_rfl, ?_⟩) hS ?_
            rotate_left
            · intro w hSw; obtain ⟨p0, e3, e6⟩ := HC.out _ hSw; go_simp
              first | done | with_reducible rfl
            refine wpAnyH_takeE (i := 3) (some 129) (v := ?_) rfl rfl (by as_aux_lemma => kernel_rfl) (by as_aux_lemma => kernel_rfl) (by as_aux_lemma => kernel_rfl) (fun _ _ _ h => h) (Or.inl ⟨by kernel_rfl, ?_⟩) hS ?_
            rotate_left
            · intro w hSw; obtain ⟨p0, e3, e6⟩ := HC.out _ hSw; go_simp
              first | done | with_reducible rfl
            refine wpAnyH_takeE (i := 4) (some 130) (v := ?_) rfl rfl (by as_aux_lemma => kernel_rfl) (by as_aux_lemma => kernel_rfl) (by as_aux_lemma => kernel_rfl) (fun _ _ _ h => h) (Or.inl ⟨by kernel_rfl, ?_⟩) hS ?_
            rotate_left
            · intro w hSw; obtain ⟨p0, e3, e6⟩ := HC.out _ hSw; go_simp
              first | done | with_reducible rfl
            refine wpAnyH_takeE (i := 5) (some 131) (v := ?_) rfl rfl (by as_aux_lemma => kernel_rfl) (by as_aux_lemma => kernel_rfl) (by as_aux_lemma => kernel_rfl) (fun _ _ _ h => h) (Or.inl ⟨by kernel_rfl, ?_⟩) hS ?_
            rotate_left
            · intro w hSw; obtain ⟨p0, e3, e6⟩ := HC.out _ hSw; go_simp
              first | done | with_reducible rfl
            (try simp only [Act.put, List.setIfInBounds_toArray, List.set_cons_zero, List.set_cons_succ])
            refine wpAnyH_takeE (i := 6) (some 132) (v := ?_) rfl rfl (by as_aux_lemma => kernel_rfl) (by as_aux_lemma => kernel_rfl) (by as_aux_lemma => kernel_rfl) (fun _ _ _ h => h) (Or.inl ⟨by kernel_rfl, ?_⟩) hS ?_
            rotate_left
            · intro w hSw; obtain ⟨p0, e3, e6⟩ := HC.out _ hSw; go_simp
              first | done | with_reducible rfl
            refine wpAnyH_takeE (i := 7) (some 133) (v := ?_) rfl rfl (by as_aux_lemma => kernel_rfl) (by as_aux_lemma => kernel_rfl) (by as_aux_lemma => kernel_rfl) (fun _ _ _ h => h) (Or.inl ⟨by kernel_rfl, ?_⟩) hS ?_
            rotate_left
            · intro w hSw; obtain ⟨p0, e3, e6⟩ := HC.out _ hSw; go_simp
              first | done | with_reducible rfl
            refine wpAnyH_takeE (i := 8) (some 134) (v := ?_) rfl rfl (by as_aux_lemma => kernel_rfl) (by as_aux_lemma => kernel_rfl) (by as_aux_lemma => kernel_rfl) (fun _ _ _ h => h) (Or.inl ⟨by kernel_rfl, ?_⟩) hS ?_
            rotate_left
            · intro w hSw; obtain ⟨p0, e3, e6⟩ := HC.out _ hSw; go_simp
              first | done | with_reducible rfl
            refine wpAnyH_takeE (i := 9) (some 135) (v := ?_) rfl rfl (by as_aux_lemma => kernel_rfl) (by as_aux_lemma => kernel_rfl) (by as_aux_lemma => kernel_rfl) (fun _ _ _ h => h) (Or.inl ⟨by kernel_rfl, ?_⟩) hS ?_
            rotate_left
            · intro w hSw; obtain ⟨p0, e3, e6⟩ := HC.out _ hSw; go_simp
              first | done | with_reducible rfl
            (try simp only [Act.put, List.setIfInBounds_toArray, List.set_cons_zero, List.set_cons_succ])
            refine wpAnyH_takeE (i := 10) (some 136) (v := ?_) rfl rfl (by as_aux_lemma => kernel_rfl) (by as_aux_lemma => kernel_rfl) (by as_aux_lemma => kernel_rfl) (fun _ _ _ h => h) (Or.inl ⟨by kernel_rfl, ?_⟩) hS ?_
            rotate_left
            · intro w hSw; obtain ⟨p0, e3, e6⟩ := HC.out _ hSw; go_simp
              first | done | with_reducible rfl
            refine wpAnyH_takeE (i := 11) (some 137) (v := ?_) rfl rfl (by as_aux_lemma => kernel_rfl) (by as_aux_lemma => kernel_rfl) (by as_aux_lemma => kernel_rfl) (fun _ _ _ h => h) (Or.inl ⟨by kernel_rfl, ?_⟩) hS ?_
            rotate_left
            · intro w hSw; obtain ⟨p0, e3, e6⟩ := HC.out _ hSw; go_simp
              first | done | with_reducible rfl
            refine wpAnyH_takeE (i := 12) (some 138) (v := ?_) rfl rfl (by as_aux_lemma => kernel_rfl) (by as_aux_lemma => kernel_rfl) (by as_aux_lemma => kernel_rfl) (fun _ _ _ h => h) (Or.inl ⟨by kernel_rfl, ?_⟩) hS ?_
            rotate_left
            · intro w hSw; obtain ⟨p0, e3, e6⟩ := HC.out _ hSw; go_simp
              first | done | with_reducible rfl
            refine wpAnyH_takeE (i := 13) (some 139) (v := ?_) rfl rfl (by as_aux_lemma => kernel_rfl) (by as_aux_lemma => kernel_rfl) (by as_aux_lemma => kernel_rfl) (fun _ _ _ h => h) (Or.inl ⟨by kernel_rfl, ?_⟩) hS ?_
            rotate_left
            · intro w hSw; obtain ⟨p0, e3, e6⟩ := HC.out _ hSw; go_simp
              first | done | with_reducible rfl
            (try simp only [Act.put, List.setIfInBounds_toArray, List.set_cons_zero, List.set_cons_succ])
            refine wpAnyH_takeE (i := 14) (some 140) (v := ?_) rfl rfl (by as_aux_lemma => kernel_rfl) (by as_aux_lemma => kernel_rfl) (by as_aux_lemma => kernel_rfl) (fun _ _ _ h => h) (Or.inl ⟨by kernel_rfl, ?_⟩) hS ?_
            rotate_left
            · intro w hSw; obtain ⟨p0, e3, e6⟩ := HC.out _ hSw; go_simp
              first | done | with_reducible rfl
            refine wpAnyH_takeE (i := 16) (some 142) (v := ?_) rfl rfl (by as_aux_lemma => kernel_rfl) (by as_aux_lemma => kernel_rfl) (by as_aux_lemma => kernel_rfl) (fun _ _ _ h => h) (Or.inl ⟨by kernel_rfl, ?_⟩) hS ?_
            rotate_left
            · intro w hSw; obtain ⟨p0, e3, e6⟩ := HC.out _ hSw; go_simp
              first | done | with_reducible rfl
            refine wpAnyH_ready (rs := [15]) (by as_aux_lemma => kernel_rfl) (by simp) ?_
            refine AllReadyH.cons rfl (fun K hK => ?_) AllReadyH.nil
            go_simp
            go_wp2_with (go_at_call 18; refine HW.out.mono ?_; rintro e w3 ⟨rfl, p3, g3⟩; replace p3 := Lib.hid p3; replace g3 := Lib.hid g3)
            refine hK.out _ _ ?_ (fun hS => ?_)
            · exact hS.trans (Grown2.one g3.out)
            clear hK K
            refine wpAnyH_takeE (i := 17) (some 143) (v := ?_) rfl rfl (by as_aux_lemma => kernel_rfl) (by as_aux_lemma => kernel_rfl) (by as_aux_lemma => kernel_rfl) (fun _ _ _ h => h) (Or.inl ⟨by kernel_rfl, ?_⟩) hS ?_
            rotate_left
            · intro w hSw; obtain ⟨p0, e3, e6⟩ := HC.out _ hSw; go_simp
              first | done | with_reducible rfl
            refine wpAnyH_takeE (i := 18) (some 144) (v := ?_) rfl rfl (by as_aux_lemma => kernel_rfl) (by as_aux_lemma => kernel_rfl) (by as_aux_lemma => kernel_rfl) (fun _ _ _ h => h) (Or.inl ⟨by kernel_rfl, ?_⟩) hS ?_
            rotate_left
            · intro w hSw; obtain ⟨p0, e3, e6⟩ := HC.out _ hSw; go_simp
              first | done | with_reducible rfl
            (try simp only [Act.put, List.setIfInBounds_toArray, List.set_cons_zero, List.set_cons_succ])
            refine wpAnyH_takeE (i := 19) (some 145) (v := ?_) rfl rfl (by as_aux_lemma => kernel_rfl) (by as_aux_lemma => kernel_rfl) (by as_aux_lemma => kernel_rfl) (fun _ _ _ h => h) (Or.inl ⟨by kernel_rfl, ?_⟩) hS ?_
            rotate_left
            · intro w hSw; obtain ⟨p0, e3, e6⟩ := HC.out _ hSw; go_simp
              first | done | with_reducible rfl
            refine wpAnyH_takeE (i := 20) (some 146) (v := ?_) rfl rfl (by as_aux_lemma => kernel_rfl) (by as_aux_lemma => kernel_rfl) (by as_aux_lemma => kernel_rfl) (fun _ _ _ h => h) (Or.inl ⟨by kernel_rfl, ?_⟩) hS ?_
            rotate_left
            · intro w hSw; obtain ⟨p0, e3, e6⟩ := HC.out _ hSw; go_simp
              first | done | with_reducible rfl
            refine wpAnyH_takeE (i := 21) (some 147) (v := ?_) rfl rfl (by as_aux_lemma => kernel_rfl) (by as_aux_lemma => kernel_rfl) (by as_aux_lemma => kernel_rfl) (fun _ _ _ h => h) (Or.inl ⟨by kernel_rfl, ?_⟩) hS ?_
            rotate_left
            · intro w hSw; obtain ⟨p0, e3, e6⟩ := HC.out _ hSw; go_simp
              first | done | with_reducible rfl
            refine wpAnyH_takeE (i := 22) (some 148) (v := ?_) rfl rfl (by as_aux_lemma => kernel_rfl) (by as_aux_lemma => kernel_rfl) (by as_aux_lemma => kernel_rfl) (fun _ _ _ h => h) (Or.inl ⟨by kernel_rfl, ?_⟩) hS ?_
            rotate_left
            · intro w hSw; obtain ⟨p0, e3, e6⟩ := HC.out _ hSw; go_simp
              first | done | with_reducible rfl
            (try simp only [Act.put, List.setIfInBounds_toArray, List.set_cons_zero, List.set_cons_succ])
            refine wpAnyH_takeE (i := 23) (some 149) (v := ?_) rfl rfl (by as_aux_lemma => kernel_rfl) (by as_aux_lemma => kernel_rfl) (by as_aux_lemma => kernel_rfl) (fun _ _ _ h => h) (Or.inl ⟨by kernel_rfl, ?_⟩) hS ?_
            rotate_left
            · intro w hSw; obtain ⟨p0, e3, e6⟩ := HC.out _ hSw; go_simp
              first | done | with_reducible rfl
            refine wpAnyH_takeE (i := 24) (some 150) (v := ?_) rfl rfl (by as_aux_lemma => kernel_rfl) (by as_aux_lemma => kernel_rfl) (by as_aux_lemma => kernel_rfl) (fun _ _ _ h => h) (Or.inl ⟨by kernel_rfl, ?_⟩) hS ?_
            rotate_left
            · intro w hSw; obtain ⟨p0, e3, e6⟩ := HC.out _ hSw; go_simp
              first | done | with_reducible rfl
            refine wpAnyH_takeE (i := 25) (some 151) (v := ?_) rfl rfl (by as_aux_lemma => kernel_rfl) (by as_aux_lemma => kernel_rfl) (by as_aux_lemma => kernel_rfl) (fun _ _ _ h => h) (Or.inl ⟨by kernel_rfl, ?_⟩) hS ?_
            rotate_left
            · intro w hSw; obtain ⟨p0, e3, e6⟩ := HC.out _ hSw; go_simp
              first | done | with_reducible rfl
            refine wpAnyH_takeE (i := 26) (some 152) (v := ?_) rfl rfl (by as_aux_lemma => kernel_rfl) (by as_aux_lemma => kernel_rfl) (by as_aux_lemma => kernel_rfl) (fun _ _ _ h => h) (Or.inl ⟨by kernel_rfl, ?_⟩) hS ?_
            rotate_left
            · intro w hSw; obtain ⟨p0, e3, e6⟩ := HC.out _ hSw; go_simp
              first | done | with_reducible rfl
            (try simp only [Act.put, List.setIfInBounds_toArray, List.set_cons_zero, List.set_cons_succ])
            refine wpAnyH_takeE (i := 27) (some 153) (v := ?_) rfl rfl (by as_aux_lemma => kernel_rfl) (by as_aux_lemma => kernel_rfl) (by as_aux_lemma => kernel_rfl) (fun _ _ _ h => h) (Or.inl ⟨by kernel_rfl, ?_⟩) hS ?_
            rotate_left
            · intro w hSw; obtain ⟨p0, e3, e6⟩ := HC.out _ hSw; go_simp
              first | done | with_reducible rfl
            refine wpAnyH_takeE (i := 28) (some 154) (v := undef) rfl rfl (by as_aux_lemma => kernel_rfl) (by as_aux_lemma => kernel_rfl) (by as_aux_lemma => kernel_rfl) (fun _ _ _ h => h) (Or.inr ⟨by kernel_rfl, rfl⟩) hS ?_
            refine wpAnyH_takeE (i := 29) (some 155) (v := undef) rfl rfl (by as_aux_lemma => kernel_rfl) (by as_aux_lemma => kernel_rfl) (by as_aux_lemma => kernel_rfl) (fun _ _ _ h => h) (Or.inr ⟨by kernel_rfl, rfl⟩) hS ?_
            refine wpAnyH_takeE (i := 30) (some 156) (v := undef) rfl rfl (by as_aux_lemma => kernel_rfl) (by as_aux_lemma => kernel_rfl) (by as_aux_lemma => kernel_rfl) (fun _ _ _ h => h) (Or.inr ⟨by kernel_rfl, rfl⟩) hS ?_
            (try simp only [Act.put, List.setIfInBounds_toArray, List.set_cons_zero, List.set_cons_succ])
            refine wpAnyH_takeE (i := 31) (some 157) (v := undef) rfl rfl (by as_aux_lemma => kernel_rfl) (by as_aux_lemma => kernel_rfl) (by as_aux_lemma => kernel_rfl) (fun _ _ _ h => h) (Or.inr ⟨by kernel_rfl, rfl⟩) hS ?_
            refine wpAnyH_takeE (i := 32) (some 158) (v := undef) rfl rfl (by as_aux_lemma => kernel_rfl) (by as_aux_lemma => kernel_rfl) (by as_aux_lemma => kernel_rfl) (fun _ _ _ h => h) (Or.inr ⟨by kernel_rfl, rfl⟩) hS ?_
            refine wpAnyH_takeE (i := 33) (some 159) (v := undef) rfl rfl (by as_aux_lemma => kernel_rfl) (by as_aux_lemma => kernel_rfl) (by as_aux_lemma => kernel_rfl) (fun _ _ _ h => h) (Or.inr ⟨by kernel_rfl, rfl⟩) hS ?_
            refine wpAnyH_takeE (i := 34) (some 160) (v := undef) rfl rfl (by as_aux_lemma => kernel_rfl) (by as_aux_lemma => kernel_rfl) (by as_aux_lemma => kernel_rfl) (fun _ _ _ h => h) (Or.inr ⟨by kernel_rfl, rfl⟩) hS ?_
            (try simp only [Act.put, List.setIfInBounds_toArray, List.set_cons_zero, List.set_cons_succ])
            refine wpAnyH_takeE (i := 35) (some 161) (v := ?_) rfl rfl (by as_aux_lemma => kernel_rfl) (by as_aux_lemma => kernel_rfl) (by as_aux_lemma => kernel_rfl) (fun _ _ _ h => h) (Or.inl ⟨by kernel_rfl, ?_⟩) hS ?_
            rotate_left
            · intro w hSw; obtain ⟨p0, e3, e6⟩ := HC.out _ hSw; go_simp
              first | done | with_reducible rfl
            refine wpAnyH_takeE (i := 36) (some 162) (v := ?_) rfl rfl (by as_aux_lemma => kernel_rfl) (by as_aux_lemma => kernel_rfl) (by as_aux_lemma => kernel_rfl) (fun _ _ _ h => h) (Or.inl ⟨by kernel_rfl, ?_⟩) hS ?_
            rotate_left
            · intro w hSw; obtain ⟨p0, e3, e6⟩ := HC.out _ hSw; go_simp
              first | done | with_reducible rfl
            refine wpAnyH_done (by kernel_rfl) ?_ _
            (try simp only [Act.put, List.setIfInBounds_toArray, List.set_cons_zero, List.set_cons_succ])
            have HS3 := Lib.hid (HS2.out.prog hS ((HS2.out.st.on ((Below.refl _ w2).drew)).probe (HS2.out.st.pok.ack _ _) p3.out g3.out))
            have hsame := ackP_same P A.m.n A.s
            have HP := Lib.hid (And.intro (hsame.1.trans HX.out.1) (And.intro (hsame.2.1.trans HX.out.2.1) (And.intro HV.out.1 (And.intro HX.out.2.2.2.1 (And.intro HV.out.2.2.2.2 (hsame.2.2 HX.out.2.2.2.2.2))))))
            clear hsame HW HC HS2 HS p0 e0 e1 e2 e3 e4 e5 e6 p3 g3 hS
            generalize ackP P A.m.n A.s = PA at *
            obtain ⟨q9, z9, r9, hask9⟩ : ∃ q z r, askedR PA = (q, z, r) := ⟨_, _, _, rfl⟩
            have HAs9 := Lib.hid (pbAsked_any b PA w3 HS3.out.st.pb q9 z9 r9 hask9)
            have HZ9 : Hid (r9 = true → z9 = ((L : Nat) : Int)) := Lib.hid (fun hr => by
              have hq : PA.qs = ((L : Nat) : Int) := HP.out.2.1
              unfold askedR at hask9
              split at hask9
              · simp only [Prod.mk.injEq] at hask9
                rw [← hask9.2.1, hq]
              · simp only [Prod.mk.injEq] at hask9
                rw [← hask9.2.2] at hr
                cases hr)
            clear hask9
            have p9 := HS3.out.blk.at.p0
            go_wp2_with (go_at_call 17; refine HAs9.out.mono ?_; rintro e w9 ⟨rfl, q9x⟩; replace q9x := Lib.hid q9x; refine Hid.out ?_)
            refine Lib.hid ?_
            clear p9
            have HN9 : Hid (RiseSt W w9 B b d PA now (i + 1) L) := Lib.hid ⟨_, _, _, _, _, _, _, _, _, HS3.out.on q9x.out, HP.out.1, HP.out.2.1, HP.out.2.2.1, HP.out.2.2.2.1, HP.out.2.2.2.2.1, HP.out.2.2.2.2.2⟩
            clear HS3 HP HAs9 q9x
            cases r9 with
            | true =>
              obtain rfl := HZ9.out (by trivial)
              clear HZ9
              go_wp2
              go_roundw
              case rel => exact ⟨i + 1, L, _, _, by omega, by go_num, rfl, HN9⟩
              case measure => simp [intOf]; omega
            | false =>
              clear HZ9
              go_wp2
              go_roundw
              case rel => exact ⟨i + 1, L, _, _, by omega, by go_num, rfl, HN9⟩
              case measure => simp [intOf]; omega
        | true =>
          rw [hnd, Bool.true_and] at HAk
          obtain rfl := eq_of_beq hnd
          cases hsq : (z0 == A.s) with
          | false =>
            rw [hsq] at HAk
            as_aux_lemma =>
              go_wp2_with (go_at_call 17; refine HAs.out.mono ?_; rintro e w2 ⟨rfl, q2⟩; replace q2 := Lib.hid q2; refine Hid.out ?_)
              refine Lib.hid ?_
              clear p0 e0 e1 e2 e3 e4 e5 e6
              have HS2 := Lib.hid (HS.out.on q2.out)
              obtain ⟨e0, e1, e2, e3, e4, e5, e6⟩ := HRow.out _ HS2.out.st.below
              have p0 := HS2.out.blk.at.p0
              go_wp2_with fail
              have HW := Lib.hid (pbAck_any b P A.m.n A.s w2.drew HS2.out.st.pb)
              rw [HAk.out] at HW
              have HC : Hid (∀ u, Grown2 w2 u b d → u.cell? ⟨B, 0, none⟩ = some (.pointer (some ⟨b, 0, none⟩)) ∧ u.cell? ⟨ba, oa + i * 7 + 3, none⟩ = some (.int .u16 A.m.n) ∧ u.cell? ⟨ba, oa + i * 7 + 6, none⟩ = some (.int .i64 A.s)) := Lib.hid (fun u g => by
                have h := (HS2.out.blk.of (g.block B HS2.out.blk.lt HS2.out.nb HS2.out.nd)).at
                have ha := HRow.out _ (Below.grown2 HS2.out.st.below g HS2.out.st.below.size HS2.out.st.lb HS2.out.st.ld)
                exact ⟨h.p0, ha.c3, ha.c6⟩)
              refine wp_region_any (by kernel_rfl) ?_
              change wpAny _ _ _ _ _ _ _ (World.drew _)
              have hS : (fun w' : World => Grown2 w2 w' b d) w2.drew := ⟨rfl, rfl, rfl, Nat.le_refl _, fun _ _ _ _ => rfl⟩
              refine wpAny_of_held (S := fun w' => Grown2 w2 w' b d) _ _ _ _ ?_
              refine wpAnyH_takeE (i := 0) (some 126) (v := ?_) rfl rfl (by as_aux_lemma => kernel_rfl) (by as_aux_lemma => kernel_rfl) (by as_aux_lemma => kernel_rfl) (fun _ _ _ h => h) (Or.inl ⟨by kernel_rfl, ?_⟩) hS ?_
              rotate_left
              · intro w hSw; obtain ⟨p0, e3, e6⟩ := HC.out _ hSw; go_simp
                first | done | with_reducible rfl
              refine wpAnyH_takeE (i := 1) (some 127) (v := ?_) rfl rfl (by as_aux_lemma => kernel_rfl) (by as_aux_lemma => kernel_rfl) (by as_aux_lemma => kernel_rfl) (fun _ _ _ h => h) (Or.inl ⟨by kernel_rfl, ?_⟩) hS ?_
              rotate_left
              · intro w hSw; obtain ⟨p0, e3, e6⟩ := HC.out _ hSw; go_simp
                first | done | with_reducible rfl
              (try simp only [Act.put, List.setIfInBounds_toArray, List.set_cons_zero, List.set_cons_succ])
              refine wpAnyH_takeE (i := 2) (some 128) (v := ?_) rfl rfl (by as_aux_lemma => kernel_rfl) (by as_aux_lemma => kernel_rfl) (by as_aux_lemma => kernel_rfl) (fun _ _ _ h => h) (Or.inl ⟨by kernel_rfl, ?_⟩) hS ?_
              rotate_left
              · intro w hSw; obtain ⟨p0, e3, e6⟩ := HC.out _ hSw; go_simp
                first | done | with_reducible rfl
              refine wpAnyH_takeE (i := 3) (some 129) (v := ?_) rfl rfl (by as_aux_lemma => kernel_rfl) (by as_aux_lemma => kernel_rfl) (by as_aux_lemma => kernel_rfl) (fun _ _ _ h => h) (Or.inl ⟨by kernel_rfl, ?_⟩) hS ?_
              rotate_left
              · intro w hSw; obtain ⟨p0, e3, e6⟩ := HC.out _ hSw; go_simp
                first | done | with_reducible rfl
              refine wpAnyH_takeE (i := 4) (some 130) (v := ?_) rfl rfl (by as_aux_lemma => kernel_rfl) (by as_aux_lemma => kernel_rfl) (by as_aux_lemma => kernel_rfl) (fun _ _ _ h => h) (Or.inl ⟨by kernel_rfl, ?_⟩) hS ?_
              rotate_left
              · intro w hSw; obtain ⟨p0, e3, e6⟩ := HC.out _ hSw; go_simp
                first | done | with_reducible rfl
              refine wpAnyH_takeE (i := 5) (some 131) (v := ?_) rfl rfl (by as_aux_lemma => kernel_rfl) (by as_aux_lemma => kernel_rfl) (by as_aux_lemma => kernel_rfl) (fun _ _ _ h => h) (Or.inl ⟨by kernel_rfl, ?_⟩) hS ?_
              rotate_left
              · intro w hSw; obtain ⟨p0, e3, e6⟩ := HC.out _ hSw; go_simp
                first | done | with_reducible rfl
              (try simp only [Act.put, List.setIfInBounds_toArray, List.set_cons_zero, List.set_cons_succ])
              refine wpAnyH_takeE (i := 6) (some 132) (v := ?_) rfl rfl (by as_aux_lemma => kernel_rfl) (by as_aux_lemma => kernel_rfl) (by as_aux_lemma => kernel_rfl) (fun _ _ _ h => h) (Or.inl ⟨by kernel_rfl, ?_⟩) hS ?_
              rotate_left
              · intro w hSw; obtain ⟨p0, e3, e6⟩ := HC.out _ hSw; go_simp
                first | done | with_reducible rfl
              refine wpAnyH_takeE (i := 7) (some 133) (v := ?_) rfl rfl (by as_aux_lemma => kernel_rfl) (by as_aux_lemma => kernel_rfl) (by as_aux_lemma => kernel_rfl) (fun _ _ _ h => h) (Or.inl ⟨by kernel_rfl, ?_⟩) hS ?_
              rotate_left
              · intro w hSw; obtain ⟨p0, e3, e6⟩ := HC.out _ hSw; go_simp
                first | done | with_reducible rfl
              refine wpAnyH_takeE (i := 8) (some 134) (v := ?_) rfl rfl (by as_aux_lemma => kernel_rfl) (by as_aux_lemma => kernel_rfl) (by as_aux_lemma => kernel_rfl) (fun _ _ _ h => h) (Or.inl ⟨by kernel_rfl, ?_⟩) hS ?_
              rotate_left
              · intro w hSw; obtain ⟨p0, e3, e6⟩ := HC.out _ hSw; go_simp
                first | done | with_reducible rfl
              refine wpAnyH_takeE (i := 9) (some 135) (v := ?_) rfl rfl (by as_aux_lemma => kernel_rfl) (by as_aux_lemma => kernel_rfl) (by as_aux_lemma => kernel_rfl) (fun _ _ _ h => h) (Or.inl ⟨by kernel_rfl, ?_⟩) hS ?_
              rotate_left
              · intro w hSw; obtain ⟨p0, e3, e6⟩ := HC.out _ hSw; go_simp
                first | done | with_reducible rfl
              (try simp only [Act.put, List.setIfInBounds_toArray, List.set_cons_zero, List.set_cons_succ])
              refine wpAnyH_takeE (i := 10) (some 136) (v := ?_) rfl rfl (by as_aux_lemma => kernel_rfl) (by as_aux_lemma => kernel_rfl) (by as_aux_lemma => kernel_rfl) (fun _ _ _ h => h) (Or.inl ⟨by kernel_rfl, ?_⟩) hS ?_
              rotate_left
              · intro w hSw; obtain ⟨p0, e3, e6⟩ := HC.out _ hSw; go_simp
                first | done | with_reducible rfl
              refine wpAnyH_takeE (i := 11) (some 137) (v := ?_) rfl rfl (by as_aux_lemma => kernel_rfl) (by as_aux_lemma => kernel_rfl) (by as_aux_lemma => kernel_rfl) (fun _ _ _ h => h) (Or.inl ⟨by kernel_rfl, ?_⟩) hS ?_
              rotate_left
              · intro w hSw; obtain ⟨p0, e3, e6⟩ := HC.out _ hSw; go_simp
                first | done | with_reducible rfl
              refine wpAnyH_takeE (i := 12) (some 138) (v := ?_) rfl rfl (by as_aux_lemma => kernel_rfl) (by as_aux_lemma => kernel_rfl) (by as_aux_lemma => kernel_rfl) (fun _ _ _ h => h) (Or.inl ⟨by kernel_rfl, ?_⟩) hS ?_
              rotate_left
              · intro w hSw; obtain ⟨p0, e3, e6⟩ := HC.out _ hSw; go_simp
                first | done | with_reducible rfl
              refine wpAnyH_takeE (i := 13) (some 139) (v := ?_) rfl rfl (by as_aux_lemma => kernel_rfl) (by as_aux_lemma => kernel_rfl) (by as_aux_lemma => kernel_rfl) (fun _ _ _ h => h) (Or.inl ⟨by kernel_rfl, ?_⟩) hS ?_
              rotate_left
              · intro w hSw; obtain ⟨p0, e3, e6⟩ := HC.out _ hSw; go_simp
                first | done | with_reducible rfl
              (try simp only [Act.put, List.setIfInBounds_toArray, List.set_cons_zero, List.set_cons_succ])
              refine wpAnyH_takeE (i := 14) (some 140) (v := ?_) rfl rfl (by as_aux_lemma => kernel_rfl) (by as_aux_lemma => kernel_rfl) (by as_aux_lemma => kernel_rfl) (fun _ _ _ h => h) (Or.inl ⟨by kernel_rfl, ?_⟩) hS ?_
              rotate_left
              · intro w hSw; obtain ⟨p0, e3, e6⟩ := HC.out _ hSw; go_simp
                first | done | with_reducible rfl
              refine wpAnyH_takeE (i := 16) (some 142) (v := ?_) rfl rfl (by as_aux_lemma => kernel_rfl) (by as_aux_lemma => kernel_rfl) (by as_aux_lemma => kernel_rfl) (fun _ _ _ h => h) (Or.inl ⟨by kernel_rfl, ?_⟩) hS ?_
              rotate_left
              · intro w hSw; obtain ⟨p0, e3, e6⟩ := HC.out _ hSw; go_simp
                first | done | with_reducible rfl
              refine wpAnyH_ready (rs := [15]) (by as_aux_lemma => kernel_rfl) (by simp) ?_
              refine AllReadyH.cons rfl (fun K hK => ?_) AllReadyH.nil
              go_simp
              go_wp2_with (go_at_call 18; refine HW.out.mono ?_; rintro e w3 ⟨rfl, p3, g3⟩; replace p3 := Lib.hid p3; replace g3 := Lib.hid g3)
              refine hK.out _ _ ?_ (fun hS => ?_)
              · exact hS.trans (Grown2.one g3.out)
              clear hK K
              refine wpAnyH_takeE (i := 17) (some 143) (v := ?_) rfl rfl (by as_aux_lemma => kernel_rfl) (by as_aux_lemma => kernel_rfl) (by as_aux_lemma => kernel_rfl) (fun _ _ _ h => h) (Or.inl ⟨by kernel_rfl, ?_⟩) hS ?_
              rotate_left
              · intro w hSw; obtain ⟨p0, e3, e6⟩ := HC.out _ hSw; go_simp
                first | done | with_reducible rfl
              refine wpAnyH_takeE (i := 18) (some 144) (v := ?_) rfl rfl (by as_aux_lemma => kernel_rfl) (by as_aux_lemma => kernel_rfl) (by as_aux_lemma => kernel_rfl) (fun _ _ _ h => h) (Or.inl ⟨by kernel_rfl, ?_⟩) hS ?_
              rotate_left
              · intro w hSw; obtain ⟨p0, e3, e6⟩ := HC.out _ hSw; go_simp
                first | done | with_reducible rfl
              (try simp only [Act.put, List.setIfInBounds_toArray, List.set_cons_zero, List.set_cons_succ])
              refine wpAnyH_takeE (i := 19) (some 145) (v := ?_) rfl rfl (by as_aux_lemma => kernel_rfl) (by as_aux_lemma => kernel_rfl) (by as_aux_lemma => kernel_rfl) (fun _ _ _ h => h) (Or.inl ⟨by kernel_rfl, ?_⟩) hS ?_
              rotate_left
              · intro w hSw; obtain ⟨p0, e3, e6⟩ := HC.out _ hSw; go_simp
                first | done | with_reducible rfl
              refine wpAnyH_takeE (i := 20) (some 146) (v := ?_) rfl rfl (by as_aux_lemma => kernel_rfl) (by as_aux_lemma => kernel_rfl) (by as_aux_lemma => kernel_rfl) (fun _ _ _ h => h) (Or.inl ⟨by kernel_rfl, ?_⟩) hS ?_
              rotate_left
              · intro w hSw; obtain ⟨p0, e3, e6⟩ := HC.out _ hSw; go_simp
                first | done | with_reducible rfl
              refine wpAnyH_takeE (i := 21) (some 147) (v := ?_) rfl rfl (by as_aux_lemma => kernel_rfl) (by as_aux_lemma => kernel_rfl) (by as_aux_lemma => kernel_rfl) (fun _ _ _ h => h) (Or.inl ⟨by kernel_rfl, ?_⟩) hS ?_
              rotate_left
              · intro w hSw; obtain ⟨p0, e3, e6⟩ := HC.out _ hSw; go_simp
                first | done | with_reducible rfl
              refine wpAnyH_takeE (i := 22) (some 148) (v := ?_) rfl rfl (by as_aux_lemma => kernel_rfl) (by as_aux_lemma => kernel_rfl) (by as_aux_lemma => kernel_rfl) (fun _ _ _ h => h) (Or.inl ⟨by kernel_rfl, ?_⟩) hS ?_
              rotate_left
              · intro w hSw; obtain ⟨p0, e3, e6⟩ := HC.out _ hSw; go_simp
                first | done | with_reducible rfl
              (try simp only [Act.put, List.setIfInBounds_toArray, List.set_cons_zero, List.set_cons_succ])
              refine wpAnyH_takeE (i := 23) (some 149) (v := ?_) rfl rfl (by as_aux_lemma => kernel_rfl) (by as_aux_lemma => kernel_rfl) (by as_aux_lemma => kernel_rfl) (fun _ _ _ h => h) (Or.inl ⟨by kernel_rfl, ?_⟩) hS ?_
              rotate_left
              · intro w hSw; obtain ⟨p0, e3, e6⟩ := HC.out _ hSw; go_simp
                first | done | with_reducible rfl
              refine wpAnyH_takeE (i := 24) (some 150) (v := ?_) rfl rfl (by as_aux_lemma => kernel_rfl) (by as_aux_lemma => kernel_rfl) (by as_aux_lemma => kernel_rfl) (fun _ _ _ h => h) (Or.inl ⟨by kernel_rfl, ?_⟩) hS ?_
              rotate_left
              · intro w hSw; obtain ⟨p0, e3, e6⟩ := HC.out _ hSw; go_simp
                first | done | with_reducible rfl
              refine wpAnyH_takeE (i := 25) (some 151) (v := ?_) rfl rfl (by as_aux_lemma => kernel_rfl) (by as_aux_lemma => kernel_rfl) (by as_aux_lemma => kernel_rfl) (fun _ _ _ h => h) (Or.inl ⟨by kernel_rfl, ?_⟩) hS ?_
              rotate_left
              · intro w hSw; obtain ⟨p0, e3, e6⟩ := HC.out _ hSw; go_simp
                first | done | with_reducible rfl
              refine wpAnyH_takeE (i := 26) (some 152) (v := ?_) rfl rfl (by as_aux_lemma => kernel_rfl) (by as_aux_lemma => kernel_rfl) (by as_aux_lemma => kernel_rfl) (fun _ _ _ h => h) (Or.inl ⟨by kernel_rfl, ?_⟩) hS ?_
              rotate_left
              · intro w hSw; obtain ⟨p0, e3, e6⟩ := HC.out _ hSw; go_simp
                first | done | with_reducible rfl
              (try simp only [Act.put, List.setIfInBounds_toArray, List.set_cons_zero, List.set_cons_succ])
              refine wpAnyH_takeE (i := 27) (some 153) (v := ?_) rfl rfl (by as_aux_lemma => kernel_rfl) (by as_aux_lemma => kernel_rfl) (by as_aux_lemma => kernel_rfl) (fun _ _ _ h => h) (Or.inl ⟨by kernel_rfl, ?_⟩) hS ?_
              rotate_left
              · intro w hSw; obtain ⟨p0, e3, e6⟩ := HC.out _ hSw; go_simp
                first | done | with_reducible rfl
              refine wpAnyH_takeE (i := 28) (some 154) (v := ?_) rfl rfl (by as_aux_lemma => kernel_rfl) (by as_aux_lemma => kernel_rfl) (by as_aux_lemma => kernel_rfl) (fun _ _ _ h => h) (Or.inl ⟨by kernel_rfl, ?_⟩) hS ?_
              rotate_left
              · intro w hSw; obtain ⟨p0, e3, e6⟩ := HC.out _ hSw; go_simp
                first | done | with_reducible rfl
              refine wpAnyH_takeE (i := 29) (some 155) (v := ?_) rfl rfl (by as_aux_lemma => kernel_rfl) (by as_aux_lemma => kernel_rfl) (by as_aux_lemma => kernel_rfl) (fun _ _ _ h => h) (Or.inl ⟨by kernel_rfl, ?_⟩) hS ?_
              rotate_left
              · intro w hSw; obtain ⟨p0, e3, e6⟩ := HC.out _ hSw; go_simp
                first | done | with_reducible rfl
              refine wpAnyH_takeE (i := 30) (some 156) (v := ?_) rfl rfl (by as_aux_lemma => kernel_rfl) (by as_aux_lemma => kernel_rfl) (by as_aux_lemma => kernel_rfl) (fun _ _ _ h => h) (Or.inl ⟨by kernel_rfl, ?_⟩) hS ?_
              rotate_left
              · intro w hSw; obtain ⟨p0, e3, e6⟩ := HC.out _ hSw; go_simp
                first | done | with_reducible rfl
              (try simp only [Act.put, List.setIfInBounds_toArray, List.set_cons_zero, List.set_cons_succ])
              refine wpAnyH_takeE (i := 31) (some 157) (v := ?_) rfl rfl (by as_aux_lemma => kernel_rfl) (by as_aux_lemma => kernel_rfl) (by as_aux_lemma => kernel_rfl) (fun _ _ _ h => h) (Or.inl ⟨by kernel_rfl, ?_⟩) hS ?_
              rotate_left
              · intro w hSw; obtain ⟨p0, e3, e6⟩ := HC.out _ hSw; go_simp
                first | done | with_reducible rfl
              refine wpAnyH_takeE (i := 32) (some 158) (v := ?_) rfl rfl (by as_aux_lemma => kernel_rfl) (by as_aux_lemma => kernel_rfl) (by as_aux_lemma => kernel_rfl) (fun _ _ _ h => h) (Or.inl ⟨by kernel_rfl, ?_⟩) hS ?_
              rotate_left
              · intro w hSw; obtain ⟨p0, e3, e6⟩ := HC.out _ hSw; go_simp
                first | done | with_reducible rfl
              refine wpAnyH_takeE (i := 33) (some 159) (v := ?_) rfl rfl (by as_aux_lemma => kernel_rfl) (by as_aux_lemma => kernel_rfl) (by as_aux_lemma => kernel_rfl) (fun _ _ _ h => h) (Or.inl ⟨by kernel_rfl, ?_⟩) hS ?_
              rotate_left
              · intro w hSw; obtain ⟨p0, e3, e6⟩ := HC.out _ hSw; go_simp
                first | done | with_reducible rfl
              refine wpAnyH_takeE (i := 34) (some 160) (v := ?_) rfl rfl (by as_aux_lemma => kernel_rfl) (by as_aux_lemma => kernel_rfl) (by as_aux_lemma => kernel_rfl) (fun _ _ _ h => h) (Or.inl ⟨by kernel_rfl, ?_⟩) hS ?_
              rotate_left
              · intro w hSw; obtain ⟨p0, e3, e6⟩ := HC.out _ hSw; go_simp
                first | done | with_reducible rfl
              (try simp only [Act.put, List.setIfInBounds_toArray, List.set_cons_zero, List.set_cons_succ])
              refine wpAnyH_takeE (i := 35) (some 161) (v := ?_) rfl rfl (by as_aux_lemma => kernel_rfl) (by as_aux_lemma => kernel_rfl) (by as_aux_lemma => kernel_rfl) (fun _ _ _ h => h) (Or.inl ⟨by kernel_rfl, ?_⟩) hS ?_
              rotate_left
              · intro w hSw; obtain ⟨p0, e3, e6⟩ := HC.out _ hSw; go_simp
                first | done | with_reducible rfl
              refine wpAnyH_takeE (i := 36) (some 162) (v := ?_) rfl rfl (by as_aux_lemma => kernel_rfl) (by as_aux_lemma => kernel_rfl) (by as_aux_lemma => kernel_rfl) (fun _ _ _ h => h) (Or.inl ⟨by kernel_rfl, ?_⟩) hS ?_
              rotate_left
              · intro w hSw; obtain ⟨p0, e3, e6⟩ := HC.out _ hSw; go_simp
                first | done | with_reducible rfl
              refine wpAnyH_done (by kernel_rfl) ?_ _
              (try simp only [Act.put, List.setIfInBounds_toArray, List.set_cons_zero, List.set_cons_succ])
              have HS3 := Lib.hid (HS2.out.prog hS ((HS2.out.st.on ((Below.refl _ w2).drew)).probe (HS2.out.st.pok.ack _ _) p3.out g3.out))
              have hsame := ackP_same P A.m.n A.s
              have HP := Lib.hid (And.intro (hsame.1.trans HX.out.1) (And.intro (hsame.2.1.trans HX.out.2.1) (And.intro HV.out.1 (And.intro HX.out.2.2.2.1 (And.intro HV.out.2.2.2.2 (hsame.2.2 HX.out.2.2.2.2.2))))))
              clear hsame HW HC HS2 HS p0 e0 e1 e2 e3 e4 e5 e6 p3 g3 hS
              generalize ackP P A.m.n A.s = PA at *
              obtain ⟨q9, z9, r9, hask9⟩ : ∃ q z r, askedR PA = (q, z, r) := ⟨_, _, _, rfl⟩
              have HAs9 := Lib.hid (pbAsked_any b PA w3 HS3.out.st.pb q9 z9 r9 hask9)
              have HZ9 : Hid (r9 = true → z9 = ((L : Nat) : Int)) := Lib.hid (fun hr => by
                have hq : PA.qs = ((L : Nat) : Int) := HP.out.2.1
                unfold askedR at hask9
                split at hask9
                · simp only [Prod.mk.injEq] at hask9
                  rw [← hask9.2.1, hq]
                · simp only [Prod.mk.injEq] at hask9
                  rw [← hask9.2.2] at hr
                  cases hr)
              clear hask9
              have p9 := HS3.out.blk.at.p0
              go_wp2_with (go_at_call 17; refine HAs9.out.mono ?_; rintro e w9 ⟨rfl, q9x⟩; replace q9x := Lib.hid q9x; refine Hid.out ?_)
              refine Lib.hid ?_
              clear p9
              have HN9 : Hid (RiseSt W w9 B b d PA now (i + 1) L) := Lib.hid ⟨_, _, _, _, _, _, _, _, _, HS3.out.on q9x.out, HP.out.1, HP.out.2.1, HP.out.2.2.1, HP.out.2.2.2.1, HP.out.2.2.2.2.1, HP.out.2.2.2.2.2⟩
              clear HS3 HP HAs9 q9x
              cases r9 with
              | true =>
                obtain rfl := HZ9.out (by trivial)
                clear HZ9
                go_wp2
                go_roundw
                case rel => exact ⟨i + 1, L, _, _, by omega, by go_num, rfl, HN9⟩
                case measure => simp [intOf]; omega
              | false =>
                clear HZ9
                go_wp2
                go_roundw
                case rel => exact ⟨i + 1, L, _, _, by omega, by go_num, rfl, HN9⟩
                case measure => simp [intOf]; omega
          | true =>
            rw [hsq] at HAk
            obtain rfl := eq_of_beq hsq
            as_aux_lemma =>
              go_wp2_with (go_at_call 17; refine HAs.out.mono ?_; rintro e w2 ⟨rfl, q2⟩; replace q2 := Lib.hid q2; refine Hid.out ?_)
              refine Lib.hid ?_
              clear p0 e0 e1 e2 e3 e4 e5 e6
              have HS2 := Lib.hid (HS.out.on q2.out)
              obtain ⟨e0, e1, e2, e3, e4, e5, e6⟩ := HRow.out _ HS2.out.st.below
              have p0 := HS2.out.blk.at.p0
              go_wp2_with fail
              have HW := Lib.hid (pbAck_any b P A.m.n A.s w2.drew HS2.out.st.pb)
              rw [HAk.out] at HW
              have HC : Hid (∀ u, Grown2 w2 u b d → u.cell? ⟨B, 0, none⟩ = some (.pointer (some ⟨b, 0, none⟩)) ∧ u.cell? ⟨ba, oa + i * 7 + 3, none⟩ = some (.int .u16 A.m.n) ∧ u.cell? ⟨ba, oa + i * 7 + 6, none⟩ = some (.int .i64 A.s)) := Lib.hid (fun u g => by
                have h := (HS2.out.blk.of (g.block B HS2.out.blk.lt HS2.out.nb HS2.out.nd)).at
                have ha := HRow.out _ (Below.grown2 HS2.out.st.below g HS2.out.st.below.size HS2.out.st.lb HS2.out.st.ld)
                exact ⟨h.p0, ha.c3, ha.c6⟩)
              refine wp_region_any (by kernel_rfl) ?_
              change wpAny _ _ _ _ _ _ _ (World.drew _)
              have hS : (fun w' : World => Grown2 w2 w' b d) w2.drew := ⟨rfl, rfl, rfl, Nat.le_refl _, fun _ _ _ _ => rfl⟩
              refine wpAny_of_held (S := fun w' => Grown2 w2 w' b d) _ _ _ _ ?_
              refine wpAnyH_takeE (i := 0) (some 126) (v := ?_) rfl rfl (by as_aux_lemma => kernel_rfl) (by as_aux_lemma => kernel_rfl) (by as_aux_lemma => kernel_rfl) (fun _ _ _ h => h) (Or.inl ⟨by kernel_rfl, ?_⟩) hS ?_
              rotate_left
              · intro w hSw; obtain ⟨p0, e3, e6⟩ := HC.out _ hSw; go_simp
                first | done | with_reducible rfl
              refine wpAnyH_takeE (i := 1) (some 127) (v := ?_) rfl rfl (by as_aux_lemma => kernel_rfl) (by as_aux_lemma => kernel_rfl) (by as_aux_lemma => kernel_rfl) (fun _ _ _ h => h) (Or.inl ⟨by kernel_rfl, ?_⟩) hS ?_
              rotate_left
              · intro w hSw; obtain ⟨p0, e3, e6⟩ := HC.out _ hSw; go_simp
                first | done | with_reducible rfl
              (try simp only [Act.put, List.setIfInBounds_toArray, List.set_cons_zero, List.set_cons_succ])
              refine wpAnyH_takeE (i := 2) (some 128) (v := ?_) rfl rfl (by as_aux_lemma => kernel_rfl) (by as_aux_lemma => kernel_rfl) (by as_aux_lemma => kernel_rfl) (fun _ _ _ h => h) (Or.inl ⟨by kernel_rfl, ?_⟩) hS ?_
              rotate_left
              · intro w hSw; obtain ⟨p0, e3, e6⟩ := HC.out _ hSw; go_simp
                first | done | with_reducible rfl
              refine wpAnyH_takeE (i := 3) (some 129) (v := ?_) rfl rfl (by as_aux_lemma => kernel_rfl) (by as_aux_lemma => kernel_rfl) (by as_aux_lemma => kernel_rfl) (fun _ _ _ h => h) (Or.inl ⟨by kernel_rfl, ?_⟩) hS ?_
              rotate_left
              · intro w hSw; obtain ⟨p0, e3, e6⟩ := HC.out _ hSw; go_simp
                first | done | with_reducible rfl
              refine wpAnyH_takeE (i := 4) (some 130) (v := ?_) rfl rfl (by as_aux_lemma => kernel_rfl) (by as_aux_lemma => kernel_rfl) (by as_aux_lemma => kernel_rfl) (fun _ _ _ h => h) (Or.inl ⟨by kernel_rfl, ?_⟩) hS ?_
              rotate_left
              · intro w hSw; obtain ⟨p0, e3, e6⟩ := HC.out _ hSw; go_simp
                first | done | with_reducible rfl
              refine wpAnyH_takeE (i := 5) (some 131) (v := ?_) rfl rfl (by as_aux_lemma => kernel_rfl) (by as_aux_lemma => kernel_rfl) (by as_aux_lemma => kernel_rfl) (fun _ _ _ h => h) (Or.inl ⟨by kernel_rfl, ?_⟩) hS ?_
              rotate_left
              · intro w hSw; obtain ⟨p0, e3, e6⟩ := HC.out _ hSw; go_simp
                first | done | with_reducible rfl
              (try simp only [Act.put, List.setIfInBounds_toArray, List.set_cons_zero, List.set_cons_succ])
              refine wpAnyH_takeE (i := 6) (some 132) (v := ?_) rfl rfl (by as_aux_lemma => kernel_rfl) (by as_aux_lemma => kernel_rfl) (by as_aux_lemma => kernel_rfl) (fun _ _ _ h => h) (Or.inl ⟨by kernel_rfl, ?_⟩) hS ?_
              rotate_left
              · intro w hSw; obtain ⟨p0, e3, e6⟩ := HC.out _ hSw; go_simp
                first | done | with_reducible rfl
              refine wpAnyH_takeE (i := 7) (some 133) (v := ?_) rfl rfl (by as_aux_lemma => kernel_rfl) (by as_aux_lemma => kernel_rfl) (by as_aux_lemma => kernel_rfl) (fun _ _ _ h => h) (Or.inl ⟨by kernel_rfl, ?_⟩) hS ?_
              rotate_left
              · intro w hSw; obtain ⟨p0, e3, e6⟩ := HC.out _ hSw; go_simp
                first | done | with_reducible rfl
              refine wpAnyH_takeE (i := 8) (some 134) (v := ?_) rfl rfl (by as_aux_lemma => kernel_rfl) (by as_aux_lemma => kernel_rfl) (by as_aux_lemma => kernel_rfl) (fun _ _ _ h => h) (Or.inl ⟨by kernel_rfl, ?_⟩) hS ?_
              rotate_left
              · intro w hSw; obtain ⟨p0, e3, e6⟩ := HC.out _ hSw; go_simp
                first | done | with_reducible rfl
              refine wpAnyH_takeE (i := 9) (some 135) (v := ?_) rfl rfl (by as_aux_lemma => kernel_rfl) (by as_aux_lemma => kernel_rfl) (by as_aux_lemma => kernel_rfl) (fun _ _ _ h => h) (Or.inl ⟨by kernel_rfl, ?_⟩) hS ?_
              rotate_left
              · intro w hSw; obtain ⟨p0, e3, e6⟩ := HC.out _ hSw; go_simp
                first | done | with_reducible rfl
              (try simp only [Act.put, List.setIfInBounds_toArray, List.set_cons_zero, List.set_cons_succ])
              refine wpAnyH_takeE (i := 10) (some 136) (v := ?_) rfl rfl (by as_aux_lemma => kernel_rfl) (by as_aux_lemma => kernel_rfl) (by as_aux_lemma => kernel_rfl) (fun _ _ _ h => h) (Or.inl ⟨by kernel_rfl, ?_⟩) hS ?_
              rotate_left
              · intro w hSw; obtain ⟨p0, e3, e6⟩ := HC.out _ hSw; go_simp
                first | done | with_reducible rfl
              refine wpAnyH_takeE (i := 11) (some 137) (v := ?_) rfl rfl (by as_aux_lemma => kernel_rfl) (by as_aux_lemma => kernel_rfl) (by as_aux_lemma => kernel_rfl) (fun _ _ _ h => h) (Or.inl ⟨by kernel_rfl, ?_⟩) hS ?_
              rotate_left
              · intro w hSw; obtain ⟨p0, e3, e6⟩ := HC.out _ hSw; go_simp
                first | done | with_reducible rfl
              refine wpAnyH_takeE (i := 12) (some 138) (v := ?_) rfl rfl (by as_aux_lemma => kernel_rfl) (by as_aux_lemma => kernel_rfl) (by as_aux_lemma => kernel_rfl) (fun _ _ _ h => h) (Or.inl ⟨by kernel_rfl, ?_⟩) hS ?_
              rotate_left
              · intro w hSw; obtain ⟨p0, e3, e6⟩ := HC.out _ hSw; go_simp
                first | done | with_reducible rfl
              refine wpAnyH_takeE (i := 13) (some 139) (v := ?_) rfl rfl (by as_aux_lemma => kernel_rfl) (by as_aux_lemma => kernel_rfl) (by as_aux_lemma => kernel_rfl) (fun _ _ _ h => h) (Or.inl ⟨by kernel_rfl, ?_⟩) hS ?_
              rotate_left
              · intro w hSw; obtain ⟨p0, e3, e6⟩ := HC.out _ hSw; go_simp
                first | done | with_reducible rfl
              (try simp only [Act.put, List.setIfInBounds_toArray, List.set_cons_zero, List.set_cons_succ])
              refine wpAnyH_takeE (i := 14) (some 140) (v := ?_) rfl rfl (by as_aux_lemma => kernel_rfl) (by as_aux_lemma => kernel_rfl) (by as_aux_lemma => kernel_rfl) (fun _ _ _ h => h) (Or.inl ⟨by kernel_rfl, ?_⟩) hS ?_
              rotate_left
              · intro w hSw; obtain ⟨p0, e3, e6⟩ := HC.out _ hSw; go_simp
                first | done | with_reducible rfl
              refine wpAnyH_takeE (i := 16) (some 142) (v := ?_) rfl rfl (by as_aux_lemma => kernel_rfl) (by as_aux_lemma => kernel_rfl) (by as_aux_lemma => kernel_rfl) (fun _ _ _ h => h) (Or.inl ⟨by kernel_rfl, ?_⟩) hS ?_
              rotate_left
              · intro w hSw; obtain ⟨p0, e3, e6⟩ := HC.out _ hSw; go_simp
                first | done | with_reducible rfl
              refine wpAnyH_ready (rs := [15]) (by as_aux_lemma => kernel_rfl) (by simp) ?_
              refine AllReadyH.cons rfl (fun K hK => ?_) AllReadyH.nil
              go_simp
              go_wp2_with (go_at_call 18; refine HW.out.mono ?_; rintro e w3 ⟨rfl, p3, g3⟩; replace p3 := Lib.hid p3; replace g3 := Lib.hid g3)
              refine hK.out _ _ ?_ (fun hS => ?_)
              · exact hS.trans (Grown2.one g3.out)
              clear hK K
              refine wpAnyH_takeE (i := 17) (some 143) (v := ?_) rfl rfl (by as_aux_lemma => kernel_rfl) (by as_aux_lemma => kernel_rfl) (by as_aux_lemma => kernel_rfl) (fun _ _ _ h => h) (Or.inl ⟨by kernel_rfl, ?_⟩) hS ?_
              rotate_left
              · intro w hSw; obtain ⟨p0, e3, e6⟩ := HC.out _ hSw; go_simp
                first | done | with_reducible rfl
              refine wpAnyH_takeE (i := 18) (some 144) (v := ?_) rfl rfl (by as_aux_lemma => kernel_rfl) (by as_aux_lemma => kernel_rfl) (by as_aux_lemma => kernel_rfl) (fun _ _ _ h => h) (Or.inl ⟨by kernel_rfl, ?_⟩) hS ?_
              rotate_left
              · intro w hSw; obtain ⟨p0, e3, e6⟩ := HC.out _ hSw; go_simp
                first | done | with_reducible rfl
              (try simp only [Act.put, List.setIfInBounds_toArray, List.set_cons_zero, List.set_cons_succ])
              refine wpAnyH_takeE (i := 19) (some 145) (v := ?_) rfl rfl (by as_aux_lemma => kernel_rfl) (by as_aux_lemma => kernel_rfl) (by as_aux_lemma => kernel_rfl) (fun _ _ _ h => h) (Or.inl ⟨by kernel_rfl, ?_⟩) hS ?_
              rotate_left
              · intro w hSw; obtain ⟨p0, e3, e6⟩ := HC.out _ hSw; go_simp
                first | done | with_reducible rfl
              refine wpAnyH_takeE (i := 20) (some 146) (v := ?_) rfl rfl (by as_aux_lemma => kernel_rfl) (by as_aux_lemma => kernel_rfl) (by as_aux_lemma => kernel_rfl) (fun _ _ _ h => h) (Or.inl ⟨by kernel_rfl, ?_⟩) hS ?_
              rotate_left
              · intro w hSw; obtain ⟨p0, e3, e6⟩ := HC.out _ hSw; go_simp
                first | done | with_reducible rfl
              refine wpAnyH_takeE (i := 21) (some 147) (v := ?_) rfl rfl (by as_aux_lemma => kernel_rfl) (by as_aux_lemma => kernel_rfl) (by as_aux_lemma => kernel_rfl) (fun _ _ _ h => h) (Or.inl ⟨by kernel_rfl, ?_⟩) hS ?_
              rotate_left
              · intro w hSw; obtain ⟨p0, e3, e6⟩ := HC.out _ hSw; go_simp
                first | done | with_reducible rfl
              refine wpAnyH_takeE (i := 22) (some 148) (v := ?_) rfl rfl (by as_aux_lemma => kernel_rfl) (by as_aux_lemma => kernel_rfl) (by as_aux_lemma => kernel_rfl) (fun _ _ _ h => h) (Or.inl ⟨by kernel_rfl, ?_⟩) hS ?_
              rotate_left
              · intro w hSw; obtain ⟨p0, e3, e6⟩ := HC.out _ hSw; go_simp
                first | done | with_reducible rfl
              (try simp only [Act.put, List.setIfInBounds_toArray, List.set_cons_zero, List.set_cons_succ])
              refine wpAnyH_takeE (i := 23) (some 149) (v := ?_) rfl rfl (by as_aux_lemma => kernel_rfl) (by as_aux_lemma => kernel_rfl) (by as_aux_lemma => kernel_rfl) (fun _ _ _ h => h) (Or.inl ⟨by kernel_rfl, ?_⟩) hS ?_
              rotate_left
              · intro w hSw; obtain ⟨p0, e3, e6⟩ := HC.out _ hSw; go_simp
                first | done | with_reducible rfl
              refine wpAnyH_takeE (i := 24) (some 150) (v := ?_) rfl rfl (by as_aux_lemma => kernel_rfl) (by as_aux_lemma => kernel_rfl) (by as_aux_lemma => kernel_rfl) (fun _ _ _ h => h) (Or.inl ⟨by kernel_rfl, ?_⟩) hS ?_
              rotate_left
              · intro w hSw; obtain ⟨p0, e3, e6⟩ := HC.out _ hSw; go_simp
                first | done | with_reducible rfl
              refine wpAnyH_takeE (i := 25) (some 151) (v := ?_) rfl rfl (by as_aux_lemma => kernel_rfl) (by as_aux_lemma => kernel_rfl) (by as_aux_lemma => kernel_rfl) (fun _ _ _ h => h) (Or.inl ⟨by kernel_rfl, ?_⟩) hS ?_
              rotate_left
              · intro w hSw; obtain ⟨p0, e3, e6⟩ := HC.out _ hSw; go_simp
                first | done | with_reducible rfl
              refine wpAnyH_takeE (i := 26) (some 152) (v := ?_) rfl rfl (by as_aux_lemma => kernel_rfl) (by as_aux_lemma => kernel_rfl) (by as_aux_lemma => kernel_rfl) (fun _ _ _ h => h) (Or.inl ⟨by kernel_rfl, ?_⟩) hS ?_
              rotate_left
              · intro w hSw; obtain ⟨p0, e3, e6⟩ := HC.out _ hSw; go_simp
                first | done | with_reducible rfl
              (try simp only [Act.put, List.setIfInBounds_toArray, List.set_cons_zero, List.set_cons_succ])
              refine wpAnyH_takeE (i := 27) (some 153) (v := ?_) rfl rfl (by as_aux_lemma => kernel_rfl) (by as_aux_lemma => kernel_rfl) (by as_aux_lemma => kernel_rfl) (fun _ _ _ h => h) (Or.inl ⟨by kernel_rfl, ?_⟩) hS ?_
              rotate_left
              · intro w hSw; obtain ⟨p0, e3, e6⟩ := HC.out _ hSw; go_simp
                first | done | with_reducible rfl
              refine wpAnyH_takeE (i := 28) (some 154) (v := ?_) rfl rfl (by as_aux_lemma => kernel_rfl) (by as_aux_lemma => kernel_rfl) (by as_aux_lemma => kernel_rfl) (fun _ _ _ h => h) (Or.inl ⟨by kernel_rfl, ?_⟩) hS ?_
              rotate_left
              · intro w hSw; obtain ⟨p0, e3, e6⟩ := HC.out _ hSw; go_simp
                first | done | with_reducible rfl
              refine wpAnyH_takeE (i := 29) (some 155) (v := ?_) rfl rfl (by as_aux_lemma => kernel_rfl) (by as_aux_lemma => kernel_rfl) (by as_aux_lemma => kernel_rfl) (fun _ _ _ h => h) (Or.inl ⟨by kernel_rfl, ?_⟩) hS ?_
              rotate_left
              · intro w hSw; obtain ⟨p0, e3, e6⟩ := HC.out _ hSw; go_simp
                first | done | with_reducible rfl
              refine wpAnyH_takeE (i := 30) (some 156) (v := ?_) rfl rfl (by as_aux_lemma => kernel_rfl) (by as_aux_lemma => kernel_rfl) (by as_aux_lemma => kernel_rfl) (fun _ _ _ h => h) (Or.inl ⟨by kernel_rfl, ?_⟩) hS ?_
              rotate_left
              · intro w hSw; obtain ⟨p0, e3, e6⟩ := HC.out _ hSw; go_simp
                first | done | with_reducible rfl
              (try simp only [Act.put, List.setIfInBounds_toArray, List.set_cons_zero, List.set_cons_succ])
              refine wpAnyH_takeE (i := 31) (some 157) (v := ?_) rfl rfl (by as_aux_lemma => kernel_rfl) (by as_aux_lemma => kernel_rfl) (by as_aux_lemma => kernel_rfl) (fun _ _ _ h => h) (Or.inl ⟨by kernel_rfl, ?_⟩) hS ?_
              rotate_left
              · intro w hSw; obtain ⟨p0, e3, e6⟩ := HC.out _ hSw; go_simp
                first | done | with_reducible rfl
              refine wpAnyH_takeE (i := 32) (some 158) (v := ?_) rfl rfl (by as_aux_lemma => kernel_rfl) (by as_aux_lemma => kernel_rfl) (by as_aux_lemma => kernel_rfl) (fun _ _ _ h => h) (Or.inl ⟨by kernel_rfl, ?_⟩) hS ?_
              rotate_left
              · intro w hSw; obtain ⟨p0, e3, e6⟩ := HC.out _ hSw; go_simp
                first | done | with_reducible rfl
              refine wpAnyH_takeE (i := 33) (some 159) (v := ?_) rfl rfl (by as_aux_lemma => kernel_rfl) (by as_aux_lemma => kernel_rfl) (by as_aux_lemma => kernel_rfl) (fun _ _ _ h => h) (Or.inl ⟨by kernel_rfl, ?_⟩) hS ?_
              rotate_left
              · intro w hSw; obtain ⟨p0, e3, e6⟩ := HC.out _ hSw; go_simp
                first | done | with_reducible rfl
              refine wpAnyH_takeE (i := 34) (some 160) (v := ?_) rfl rfl (by as_aux_lemma => kernel_rfl) (by as_aux_lemma => kernel_rfl) (by as_aux_lemma => kernel_rfl) (fun _ _ _ h => h) (Or.inl ⟨by kernel_rfl, ?_⟩) hS ?_
              rotate_left
              · intro w hSw; obtain ⟨p0, e3, e6⟩ := HC.out _ hSw; go_simp
                first | done | with_reducible rfl
              (try simp only [Act.put, List.setIfInBounds_toArray, List.set_cons_zero, List.set_cons_succ])
              refine wpAnyH_takeE (i := 35) (some 161) (v := ?_) rfl rfl (by as_aux_lemma => kernel_rfl) (by as_aux_lemma => kernel_rfl) (by as_aux_lemma => kernel_rfl) (fun _ _ _ h => h) (Or.inl ⟨by kernel_rfl, ?_⟩) hS ?_
              rotate_left
              · intro w hSw; obtain ⟨p0, e3, e6⟩ := HC.out _ hSw; go_simp
                first | done | with_reducible rfl
              refine wpAnyH_takeE (i := 36) (some 162) (v := ?_) rfl rfl (by as_aux_lemma => kernel_rfl) (by as_aux_lemma => kernel_rfl) (by as_aux_lemma => kernel_rfl) (fun _ _ _ h => h) (Or.inl ⟨by kernel_rfl, ?_⟩) hS ?_
              rotate_left
              · intro w hSw; obtain ⟨p0, e3, e6⟩ := HC.out _ hSw; go_simp
                first | done | with_reducible rfl
              refine wpAnyH_done (by kernel_rfl) ?_ _
              (try simp only [Act.put, List.setIfInBounds_toArray, List.set_cons_zero, List.set_cons_succ])
              have HS3 := Lib.hid (HS2.out.prog hS ((HS2.out.st.on ((Below.refl _ w2).drew)).probe (HS2.out.st.pok.ack _ _) p3.out g3.out))
              have hsame := ackP_same P A.m.n A.s
              have HP := Lib.hid (And.intro (hsame.1.trans HX.out.1) (And.intro (hsame.2.1.trans HX.out.2.1) (And.intro HV.out.1 (And.intro HX.out.2.2.2.1 (And.intro HV.out.2.2.2.2 (hsame.2.2 HX.out.2.2.2.2.2))))))
              clear hsame HW HC HS2 HS p0 e0 e1 e2 e3 e4 e5 e6 p3 g3 hS
              generalize ackP P A.m.n A.s = PA at *
              obtain ⟨q9, z9, r9, hask9⟩ : ∃ q z r, askedR PA = (q, z, r) := ⟨_, _, _, rfl⟩
              have HAs9 := Lib.hid (pbAsked_any b PA w3 HS3.out.st.pb q9 z9 r9 hask9)
              have HZ9 : Hid (r9 = true → z9 = ((L : Nat) : Int)) := Lib.hid (fun hr => by
                have hq : PA.qs = ((L : Nat) : Int) := HP.out.2.1
                unfold askedR at hask9
                split at hask9
                · simp only [Prod.mk.injEq] at hask9
                  rw [← hask9.2.1, hq]
                · simp only [Prod.mk.injEq] at hask9
                  rw [← hask9.2.2] at hr
                  cases hr)
              clear hask9
              have p9 := HS3.out.blk.at.p0
              go_wp2_with (go_at_call 17; refine HAs9.out.mono ?_; rintro e w9 ⟨rfl, q9x⟩; replace q9x := Lib.hid q9x; refine Hid.out ?_)
              refine Lib.hid ?_
              clear p9
              have HN9 : Hid (RiseSt W w9 B b d PA now (i + 1) L) := Lib.hid ⟨_, _, _, _, _, _, _, _, _, HS3.out.on q9x.out, HP.out.1, HP.out.2.1, HP.out.2.2.1, HP.out.2.2.2.1, HP.out.2.2.2.2.1, HP.out.2.2.2.2.2⟩
              clear HS3 HP HAs9 q9x
              cases r9 with
              | true =>
                obtain rfl := HZ9.out (by trivial)
                clear HZ9
                go_wp2
                go_roundw
                case rel => exact ⟨i + 1, L, _, _, by omega, by go_num, rfl, HN9⟩
                case measure => simp [intOf]; omega
              | false =>
                clear HZ9
                go_wp2
                go_roundw
                case rel => exact ⟨i + 1, L, _, _, by omega, by go_num, rfl, HN9⟩
                case measure => simp [intOf]; omega
    | 3, _ =>
      as_aux_lemma =>
        have hsame := watchP_same P A.m now
        go_wp2_with (go_at_call 17; refine HAs.out.mono ?_; rintro e w2 ⟨rfl, q2⟩; replace q2 := Lib.hid q2; refine Hid.out ?_)
        refine Lib.hid ?_
        clear p0 e0 e1 e2 e3 e4 e5 e6
        have HS2 := Lib.hid (HS.out.on q2.out)
        obtain ⟨e0, e1, e2, e3, e4, e5, e6⟩ := HRow.out _ HS2.out.st.below
        have p0 := HS2.out.blk.at.p0
        have HD := Lib.hid (pbdo_watch W w2 B b d P T R U now a nn c x y z HS2.out A HKK.out ⟨HFit.out.n.1, HFit.out.s.1⟩)
        go_wp2_with (go_at_call 11; refine HD.out.mono ?_; rintro e w3 ⟨a', n', c', rfl, s3⟩; replace s3 := Lib.hid s3; refine Hid.out ?_)
        refine Lib.hid ?_
        have HP := Lib.hid (And.intro (hsame.1.trans HX.out.1) (And.intro (hsame.2.1.trans HX.out.2.1) (And.intro HV.out.1 (And.intro HX.out.2.2.2.1 (And.intro HV.out.2.2.2.2 (watchP_self HX.out.2.2.2.2.2 A.m now))))))
        clear HD HS2 HS p0 e0 e1 e2 e3 e4 e5 e6
        obtain ⟨q9, z9, r9, hask9⟩ : ∃ q z r, askedR (watchP P A.m now) = (q, z, r) := ⟨_, _, _, rfl⟩
        have HAs9 := Lib.hid (pbAsked_any b (watchP P A.m now) w3 s3.out.st.pb q9 z9 r9 hask9)
        have HZ9 : Hid (r9 = true → z9 = ((L : Nat) : Int)) := Lib.hid (fun hr => by
          have hq : (watchP P A.m now).qs = ((L : Nat) : Int) := HP.out.2.1
          unfold askedR at hask9
          split at hask9
          · simp only [Prod.mk.injEq] at hask9
            rw [← hask9.2.1, hq]
          · simp only [Prod.mk.injEq] at hask9
            rw [← hask9.2.2] at hr
            cases hr)
        clear hask9
        have p9 := s3.out.blk.at.p0
        go_wp2_with (go_at_call 17; refine HAs9.out.mono ?_; rintro e w9 ⟨rfl, q9x⟩; replace q9x := Lib.hid q9x; refine Hid.out ?_)
        refine Lib.hid ?_
        clear p9
        have HN9 : Hid (RiseSt W w9 B b d (watchP P A.m now) now (i + 1) L) := Lib.hid ⟨_, _, _, _, _, _, _, _, _, s3.out.on q9x.out, HP.out.1, HP.out.2.1, HP.out.2.2.1, HP.out.2.2.2.1, HP.out.2.2.2.2.1, HP.out.2.2.2.2.2⟩
        clear s3 HP HAs9 q9x
        cases r9 with
        | true =>
          obtain rfl := HZ9.out (by trivial)
          clear HZ9
          go_wp2
          go_roundw
          case rel => exact ⟨i + 1, L, _, _, by omega, by go_num, rfl, HN9⟩
          case measure => simp [intOf]; omega
        | false =>
          clear HZ9
          go_wp2
          go_roundw
          case rel => exact ⟨i + 1, L, _, _, by omega, by go_num, rfl, HN9⟩
          case measure => simp [intOf]; omega
    | 4, _ =>
      as_aux_lemma =>
        go_wp2_with (go_at_call 17; refine HAs.out.mono ?_; rintro e w2 ⟨rfl, q2⟩; replace q2 := Lib.hid q2; refine Hid.out ?_)
        refine Lib.hid ?_
        clear p0 e0 e1 e2 e3 e4 e5 e6
        have HS2 := Lib.hid (HS.out.on q2.out)
        obtain ⟨e0, e1, e2, e3, e4, e5, e6⟩ := HRow.out _ HS2.out.st.below
        have p0 := HS2.out.blk.at.p0
        have HD := Lib.hid (pbdo_hear W w2 B b d P T R U now a nn c x y z HS2.out A HKK.out ⟨HFit.out.n.1, HFit.out.s.1⟩)
        go_wp2_with (go_at_call 11; refine HD.out.mono ?_; rintro e w3 ⟨a', n', c', rfl, s3⟩; replace s3 := Lib.hid s3; refine Hid.out ?_)
        refine Lib.hid ?_
        have HP := Lib.hid (And.intro ((rfl : P.s = P.s).trans HX.out.1) (And.intro ((rfl : P.qs = P.qs).trans HX.out.2.1) (And.intro HV.out.1 (And.intro HX.out.2.2.2.1 (And.intro HV.out.2.2.2.2 HX.out.2.2.2.2.2)))))
        clear HD HS2 HS p0 e0 e1 e2 e3 e4 e5 e6
        obtain ⟨q9, z9, r9, hask9⟩ : ∃ q z r, askedR P = (q, z, r) := ⟨_, _, _, rfl⟩
        have HAs9 := Lib.hid (pbAsked_any b P w3 s3.out.st.pb q9 z9 r9 hask9)
        have HZ9 : Hid (r9 = true → z9 = ((L : Nat) : Int)) := Lib.hid (fun hr => by
          have hq : P.qs = ((L : Nat) : Int) := HP.out.2.1
          unfold askedR at hask9
          split at hask9
          · simp only [Prod.mk.injEq] at hask9
            rw [← hask9.2.1, hq]
          · simp only [Prod.mk.injEq] at hask9
            rw [← hask9.2.2] at hr
            cases hr)
        clear hask9
        have p9 := s3.out.blk.at.p0
        go_wp2_with (go_at_call 17; refine HAs9.out.mono ?_; rintro e w9 ⟨rfl, q9x⟩; replace q9x := Lib.hid q9x; refine Hid.out ?_)
        refine Lib.hid ?_
        clear p9
        have HN9 : Hid (RiseSt W w9 B b d P now (i + 1) L) := Lib.hid ⟨_, _, _, _, _, _, _, _, _, s3.out.on q9x.out, HP.out.1, HP.out.2.1, HP.out.2.2.1, HP.out.2.2.2.1, HP.out.2.2.2.2.1, HP.out.2.2.2.2.2⟩
        clear s3 HP HAs9 q9x
        cases r9 with
        | true =>
          obtain rfl := HZ9.out (by trivial)
          clear HZ9
          go_wp2
          go_roundw
          case rel => exact ⟨i + 1, L, _, _, by omega, by go_num, rfl, HN9⟩
          case measure => simp [intOf]; omega
        | false =>
          clear HZ9
          go_wp2
          go_roundw
          case rel => exact ⟨i + 1, L, _, _, by omega, by go_num, rfl, HN9⟩
          case measure => simp [intOf]; omega

end Go.Proofs.Ytnoconampcemoaa
