/-
  Whether two configurations are one, as the reference tells it.
-/
import Derived.Test.YthaimnmbcbhioaaDoorRSame2
namespace Go.Proofs.YthaimnmbcbhioaaDoor
open Go.RowKit Go.Shelf

set_option maxRecDepth 20000 in
set_option maxHeartbeats 4000000 in
theorem uSameMts_any (a : Option Addr) (c : Nat) (ms : List Mt) (b : Option Addr) (d : Nat) (ns : List Mt) (w : World) (h1 : MtsAt w a ms) (h2 : MtsAt w b ns) (hn : ms.length ≤ 1000) (hm : ns.length ≤ 1000) :
    Calls Tryd.prog 35 #[.slice a ms.length c, .slice b ns.length d] w fun e w' => Tells (ms = ns) e ∧ Below w.heap.size w w' := by
  have H1 := Lib.hid h1
  have H2 := Lib.hid h2
  clear h1 h2
  by_cases hl : ms.length = ns.length
  case neg =>
    have hl' : ((ms.length : Int) != (ns.length : Int)) = true := by simp; omega
    have HT : Hid (Tells (ms = ns) (.returned (.bool false))) := Lib.hid ⟨false, rfl, ⟨fun h => (by cases h), fun h => absurd (congrArg List.length h) hl⟩⟩
    go_enter Tryd.func35, Tryd.ntmps35
    go_wp2
    go_ret
    exact ⟨HT.out, Below.refl _ _⟩
  case pos =>
  have HL := Lib.hid hl
  have hl' : ((ms.length : Int) != (ns.length : Int)) = false := by simp; omega
  obtain ⟨n, hnn⟩ : ∃ n, n = ns.length := ⟨_, rfl⟩
  have HNn := Lib.hid hnn
  rw [← hnn] at hl' hl ⊢
  rw [hl] at hl' ⊢
  have HLn := Lib.hid hl
  have hnb : n ≤ 1000 := by omega
  clear hnn hl
  have HP : Hid (∀ P : Prop, P = (ms = ns) → True) := Lib.hid fun _ _ => trivial
  generalize hPP : (ms = ns) = P at *
  have HPP := Lib.hid hPP
  clear hPP HP
  go_enter Tryd.func35, Tryd.ntmps35
  go_wp2
  go_loopg [5] n (fun gg s5 wr => ∃ k : Nat, k ≤ n ∧ n - k ≤ gg ∧ s5 = .int .i64 k ∧ Hid (Below w.heap.size w wr) ∧ Hid (∀ j (_ : j < k) (hj : j < ms.length) (hj2 : j < ns.length), ms[j] = ns[j]))
  case atStart => exact ⟨0, Nat.zero_le _, by omega, rfl, Lib.hid (Below.refl _ _), Lib.hid fun j hj => absurd hj (Nat.not_lt_zero _)⟩
  case round =>
    obtain ⟨k, hk, hg, rfl, HB, HA⟩ := hrel
    by_cases hlt : k < n
    · have hkl : (k : Int) < (n : Int) := by omega
      have hk1 : k < ms.length := by have := HLn.out; omega
      have hk2 : k < ns.length := by have := HNn.out; omega
      obtain ⟨b1, o1, rfl, hb1, hcx⟩ := H1.out (by omega)
      obtain ⟨b2, o2, rfl, hb2, hcy⟩ := H2.out (by omega)
      have hx := hcx k hk1
      have hy := hcy k hk2
      have e0 : wr.cell? ⟨b1, o1 + k * 3, none⟩ = some (.string ms[k].1) := (HB.out.cell (p := ⟨b1, o1 + k * 3, none⟩) hb1).trans (hx.1)
      have f0 : wr.cell? ⟨b2, o2 + k * 3, none⟩ = some (.string ns[k].1) := (HB.out.cell (p := ⟨b2, o2 + k * 3, none⟩) hb2).trans (hy.1)
      have e1 : wr.cell? ⟨b1, o1 + k * 3 + 1, none⟩ = some (.int .u8 (ms[k].2.1 : Int)) := (HB.out.cell (p := ⟨b1, o1 + k * 3 + 1, none⟩) hb1).trans (hx.2.1)
      have f1 : wr.cell? ⟨b2, o2 + k * 3 + 1, none⟩ = some (.int .u8 (ns[k].2.1 : Int)) := (HB.out.cell (p := ⟨b2, o2 + k * 3 + 1, none⟩) hb2).trans (hy.2.1)
      have e2 : wr.cell? ⟨b1, o1 + k * 3 + 2, none⟩ = some (.string ms[k].2.2) := (HB.out.cell (p := ⟨b1, o1 + k * 3 + 2, none⟩) hb1).trans (hx.2.2)
      have f2 : wr.cell? ⟨b2, o2 + k * 3 + 2, none⟩ = some (.string ns[k].2.2) := (HB.out.cell (p := ⟨b2, o2 + k * 3 + 2, none⟩) hb2).trans (hy.2.2)
      have HN1 : Hid (ms[k] ≠ ns[k] → ¬ P) := Lib.hid fun h hp => by
        rw [← HPP.out] at hp
        subst hp
        exact h rfl
      have HA2 : Hid (ms[k] = ns[k] → ∀ j (_ : j < k + 1) (hj : j < ms.length) (hj2 : j < ns.length), ms[j] = ns[j]) := Lib.hid fun h0 j hj h1 h2 => by
        by_cases e : j = k
        · subst e; exact h0
        · exact HA.out j (by omega) h1 h2
      have HEq := Lib.hid (eqMt_iff ms[k] ns[k])
      have hne := eqMt_run ms[k] ns[k]
      clear hcx hcy hx hy HA
      generalize ms[k] = x at *
      generalize ns[k] = y at *
      clear hk1 hk2
      skip
      go_wp2_with fail
      refine wp_region_any (by kernel_rfl) ?_
      change wpAny _ _ _ _ _ _ _ (World.drew _)
      have hS : (fun w' : World => w'.cell? ⟨b1, o1 + k * 3, none⟩ = some (.string x.1) ∧ w'.cell? ⟨b1, o1 + k * 3 + 1, none⟩ = some (.int .u8 (x.2.1 : Int)) ∧ w'.cell? ⟨b1, o1 + k * 3 + 2, none⟩ = some (.string x.2.2) ∧ w'.cell? ⟨b2, o2 + k * 3, none⟩ = some (.string y.1) ∧ w'.cell? ⟨b2, o2 + k * 3 + 1, none⟩ = some (.int .u8 (y.2.1 : Int)) ∧ w'.cell? ⟨b2, o2 + k * 3 + 2, none⟩ = some (.string y.2.2)) wr.drew := ⟨e0, e1, e2, f0, f1, f2⟩
      refine wpAny_of_held (S := fun w' => w'.cell? ⟨b1, o1 + k * 3, none⟩ = some (.string x.1) ∧ w'.cell? ⟨b1, o1 + k * 3 + 1, none⟩ = some (.int .u8 (x.2.1 : Int)) ∧ w'.cell? ⟨b1, o1 + k * 3 + 2, none⟩ = some (.string x.2.2) ∧ w'.cell? ⟨b2, o2 + k * 3, none⟩ = some (.string y.1) ∧ w'.cell? ⟨b2, o2 + k * 3 + 1, none⟩ = some (.int .u8 (y.2.1 : Int)) ∧ w'.cell? ⟨b2, o2 + k * 3 + 2, none⟩ = some (.string y.2.2)) _ _ _ _ ?_
      refine wpAnyH_take_at (i := 0) (some 17) (v := ?_) rfl rfl (by as_aux_lemma => kernel_rfl) (by as_aux_lemma => kernel_rfl) (by as_aux_lemma => kernel_rfl) (fun _ _ _ h => h) (Or.inl ⟨by kernel_rfl, ?_⟩) hS ?_
      rotate_left
      · intro w hSw; obtain ⟨g0, g1, g2, g3, g4, g5⟩ := hSw; go_simp
        first | done | with_reducible rfl
      skip
      refine wpAnyH_take_at (i := 1) (some 18) (v := ?_) rfl rfl (by as_aux_lemma => kernel_rfl) (by as_aux_lemma => kernel_rfl) (by as_aux_lemma => kernel_rfl) (fun _ _ _ h => h) (Or.inl ⟨by kernel_rfl, ?_⟩) hS ?_
      rotate_left
      · intro w hSw; obtain ⟨g0, g1, g2, g3, g4, g5⟩ := hSw; go_simp
        first | done | with_reducible rfl
      skip
      refine wpAnyH_take_at (i := 2) (some 19) (v := ?_) rfl rfl (by as_aux_lemma => kernel_rfl) (by as_aux_lemma => kernel_rfl) (by as_aux_lemma => kernel_rfl) (fun _ _ _ h => h) (Or.inl ⟨by kernel_rfl, ?_⟩) hS ?_
      rotate_left
      · intro w hSw; obtain ⟨g0, g1, g2, g3, g4, g5⟩ := hSw; go_simp
        first | done | with_reducible rfl
      skip
      refine wpAnyH_take_at (i := 3) (some 20) (v := ?_) rfl rfl (by as_aux_lemma => kernel_rfl) (by as_aux_lemma => kernel_rfl) (by as_aux_lemma => kernel_rfl) (fun _ _ _ h => h) (Or.inl ⟨by kernel_rfl, ?_⟩) hS ?_
      rotate_left
      · intro w hSw; obtain ⟨g0, g1, g2, g3, g4, g5⟩ := hSw; go_simp
        first | done | with_reducible rfl
      skip
      refine wpAnyH_take_at (i := 4) (some 21) (v := ?_) rfl rfl (by as_aux_lemma => kernel_rfl) (by as_aux_lemma => kernel_rfl) (by as_aux_lemma => kernel_rfl) (fun _ _ _ h => h) (Or.inl ⟨by kernel_rfl, ?_⟩) hS ?_
      rotate_left
      · intro w hSw; obtain ⟨g0, g1, g2, g3, g4, g5⟩ := hSw; go_simp
        first | done | with_reducible rfl
      skip
      refine wpAnyH_take_at (i := 5) (some 22) (v := ?_) rfl rfl (by as_aux_lemma => kernel_rfl) (by as_aux_lemma => kernel_rfl) (by as_aux_lemma => kernel_rfl) (fun _ _ _ h => h) (Or.inl ⟨by kernel_rfl, ?_⟩) hS ?_
      rotate_left
      · intro w hSw; obtain ⟨g0, g1, g2, g3, g4, g5⟩ := hSw; go_simp
        first | done | with_reducible rfl
      skip
      refine wpAnyH_take_at (i := 6) (some 23) (v := ?_) rfl rfl (by as_aux_lemma => kernel_rfl) (by as_aux_lemma => kernel_rfl) (by as_aux_lemma => kernel_rfl) (fun _ _ _ h => h) (Or.inl ⟨by kernel_rfl, ?_⟩) hS ?_
      rotate_left
      · intro w hSw; obtain ⟨g0, g1, g2, g3, g4, g5⟩ := hSw; go_simp
        first | done | with_reducible rfl
      skip
      refine wpAnyH_take_at (i := 7) (some 24) (v := ?_) rfl rfl (by as_aux_lemma => kernel_rfl) (by as_aux_lemma => kernel_rfl) (by as_aux_lemma => kernel_rfl) (fun _ _ _ h => h) (Or.inl ⟨by kernel_rfl, ?_⟩) hS ?_
      rotate_left
      · intro w hSw; obtain ⟨g0, g1, g2, g3, g4, g5⟩ := hSw; go_simp
        first | done | with_reducible rfl
      skip
      refine wpAnyH_take_at (i := 8) (some 25) (v := ?_) rfl rfl (by as_aux_lemma => kernel_rfl) (by as_aux_lemma => kernel_rfl) (by as_aux_lemma => kernel_rfl) (fun _ _ _ h => h) (Or.inl ⟨by kernel_rfl, ?_⟩) hS ?_
      rotate_left
      · intro w hSw; obtain ⟨g0, g1, g2, g3, g4, g5⟩ := hSw; go_simp
        first | done | with_reducible rfl
      skip
      refine wpAnyH_done (by kernel_rfl) ?_ _
      clear hS e0 f0 e1 f1 e2 f2 hne
      go_simp
      cases hv : eqMt x y with
      | true =>
        have HA3 := Lib.hid (HA2.out (HEq.out.1 hv))
        clear HA2 HN1 HEq
        go_wp2
        go_roundg (n - (k + 1))
        case measure => omega
        case rel => exact ⟨k + 1, by omega, by omega, by go_num, Lib.hid HB.out.drew, HA3⟩
      | false =>
        have HT : Hid (Tells P (.returned (.bool false))) := Lib.hid ⟨false, rfl, ⟨fun h => (by cases h), fun h => absurd h (HN1.out fun e => by rw [HEq.out.2 e] at hv; cases hv)⟩⟩
        clear HA2 HN1 HEq
        go_wp2
        go_ret
        exact ⟨HT.out, HB.out.drew⟩
    · obtain rfl : k = n := by omega
      have HT : Hid (Tells P (.returned (.bool true))) := Lib.hid ⟨true, rfl, ⟨fun _ => by
        rw [← HPP.out]
        exact List.ext_getElem HL.out fun i h1 h2 => HA.out i (by have := HLn.out; omega) h1 h2, fun _ => rfl⟩⟩
      clear HA
      go_wp2
      go_ret
      exact ⟨HT.out, HB.out⟩

set_option maxRecDepth 20000 in
set_option maxHeartbeats 4000000 in
theorem uSameTexts_any (a : Option Addr) (c : Nat) (ms : List ByteArray) (b : Option Addr) (d : Nat) (ns : List ByteArray) (w : World) (h1 : StrsAt w a ms) (h2 : StrsAt w b ns) (hn : ms.length ≤ 1000) (hm : ns.length ≤ 1000) :
    Calls Tryd.prog 36 #[.slice a ms.length c, .slice b ns.length d] w fun e w' => Tells (ms = ns) e ∧ Below w.heap.size w w' := by
  have H1 := Lib.hid h1
  have H2 := Lib.hid h2
  clear h1 h2
  by_cases hl : ms.length = ns.length
  case neg =>
    have hl' : ((ms.length : Int) != (ns.length : Int)) = true := by simp; omega
    have HT : Hid (Tells (ms = ns) (.returned (.bool false))) := Lib.hid ⟨false, rfl, ⟨fun h => (by cases h), fun h => absurd (congrArg List.length h) hl⟩⟩
    go_enter Tryd.func36, Tryd.ntmps36
    go_wp2
    go_ret
    exact ⟨HT.out, Below.refl _ _⟩
  case pos =>
  have HL := Lib.hid hl
  have hl' : ((ms.length : Int) != (ns.length : Int)) = false := by simp; omega
  obtain ⟨n, hnn⟩ : ∃ n, n = ns.length := ⟨_, rfl⟩
  have HNn := Lib.hid hnn
  rw [← hnn] at hl' hl ⊢
  rw [hl] at hl' ⊢
  have HLn := Lib.hid hl
  have hnb : n ≤ 1000 := by omega
  clear hnn hl
  have HP : Hid (∀ P : Prop, P = (ms = ns) → True) := Lib.hid fun _ _ => trivial
  generalize hPP : (ms = ns) = P at *
  have HPP := Lib.hid hPP
  clear hPP HP
  go_enter Tryd.func36, Tryd.ntmps36
  go_wp2
  go_loopg [5] n (fun gg s5 wr => ∃ k : Nat, k ≤ n ∧ n - k ≤ gg ∧ s5 = .int .i64 k ∧ Hid (Below w.heap.size w wr) ∧ Hid (∀ j (_ : j < k) (hj : j < ms.length) (hj2 : j < ns.length), ms[j] = ns[j]))
  case atStart => exact ⟨0, Nat.zero_le _, by omega, rfl, Lib.hid (Below.refl _ _), Lib.hid fun j hj => absurd hj (Nat.not_lt_zero _)⟩
  case round =>
    obtain ⟨k, hk, hg, rfl, HB, HA⟩ := hrel
    by_cases hlt : k < n
    · have hkl : (k : Int) < (n : Int) := by omega
      have hk1 : k < ms.length := by have := HLn.out; omega
      have hk2 : k < ns.length := by have := HNn.out; omega
      obtain ⟨b1, o1, rfl, hb1, hcx⟩ := H1.out (by omega)
      obtain ⟨b2, o2, rfl, hb2, hcy⟩ := H2.out (by omega)
      have hx := hcx k hk1
      have hy := hcy k hk2
      have e0 : wr.cell? ⟨b1, o1 + k, none⟩ = some (.string ms[k]) := (HB.out.cell (p := ⟨b1, o1 + k, none⟩) hb1).trans (hx)
      have f0 : wr.cell? ⟨b2, o2 + k, none⟩ = some (.string ns[k]) := (HB.out.cell (p := ⟨b2, o2 + k, none⟩) hb2).trans (hy)
      have HN1 : Hid (ms[k] ≠ ns[k] → ¬ P) := Lib.hid fun h hp => by
        rw [← HPP.out] at hp
        subst hp
        exact h rfl
      have HA2 : Hid (ms[k] = ns[k] → ∀ j (_ : j < k + 1) (hj : j < ms.length) (hj2 : j < ns.length), ms[j] = ns[j]) := Lib.hid fun h0 j hj h1 h2 => by
        by_cases e : j = k
        · subst e; exact h0
        · exact HA.out j (by omega) h1 h2
      have HEq := Lib.hid (eqSt_iff ms[k] ns[k])
      have hne := eqSt_run ms[k] ns[k]
      clear hcx hcy hx hy HA
      generalize ms[k] = x at *
      generalize ns[k] = y at *
      clear hk1 hk2
      unfold eqSt at *
      go_wp2_with fail
      refine wp_region_any (by kernel_rfl) ?_
      change wpAny _ _ _ _ _ _ _ (World.drew _)
      have hS : (fun w' : World => w'.cell? ⟨b1, o1 + k, none⟩ = some (.string x) ∧ w'.cell? ⟨b2, o2 + k, none⟩ = some (.string y)) wr.drew := ⟨e0, f0⟩
      refine wpAny_of_held (S := fun w' => w'.cell? ⟨b1, o1 + k, none⟩ = some (.string x) ∧ w'.cell? ⟨b2, o2 + k, none⟩ = some (.string y)) _ _ _ _ ?_
      refine wpAnyH_take_at (i := 0) (some 17) (v := ?_) rfl rfl (by as_aux_lemma => kernel_rfl) (by as_aux_lemma => kernel_rfl) (by as_aux_lemma => kernel_rfl) (fun _ _ _ h => h) (Or.inl ⟨by kernel_rfl, ?_⟩) hS ?_
      rotate_left
      · intro w hSw; obtain ⟨g0, g1⟩ := hSw; go_simp
        first | done | with_reducible rfl
      skip
      refine wpAnyH_take_at (i := 1) (some 18) (v := ?_) rfl rfl (by as_aux_lemma => kernel_rfl) (by as_aux_lemma => kernel_rfl) (by as_aux_lemma => kernel_rfl) (fun _ _ _ h => h) (Or.inl ⟨by kernel_rfl, ?_⟩) hS ?_
      rotate_left
      · intro w hSw; obtain ⟨g0, g1⟩ := hSw; go_simp
        first | done | with_reducible rfl
      skip
      refine wpAnyH_take_at (i := 2) (some 19) (v := ?_) rfl rfl (by as_aux_lemma => kernel_rfl) (by as_aux_lemma => kernel_rfl) (by as_aux_lemma => kernel_rfl) (fun _ _ _ h => h) (Or.inl ⟨by kernel_rfl, ?_⟩) hS ?_
      rotate_left
      · intro w hSw; obtain ⟨g0, g1⟩ := hSw; go_simp
        first | done | with_reducible rfl
      skip
      refine wpAnyH_take_at (i := 3) (some 20) (v := ?_) rfl rfl (by as_aux_lemma => kernel_rfl) (by as_aux_lemma => kernel_rfl) (by as_aux_lemma => kernel_rfl) (fun _ _ _ h => h) (Or.inl ⟨by kernel_rfl, ?_⟩) hS ?_
      rotate_left
      · intro w hSw; obtain ⟨g0, g1⟩ := hSw; go_simp
        first | done | with_reducible rfl
      skip
      refine wpAnyH_take_at (i := 4) (some 21) (v := ?_) rfl rfl (by as_aux_lemma => kernel_rfl) (by as_aux_lemma => kernel_rfl) (by as_aux_lemma => kernel_rfl) (fun _ _ _ h => h) (Or.inl ⟨by kernel_rfl, ?_⟩) hS ?_
      rotate_left
      · intro w hSw; obtain ⟨g0, g1⟩ := hSw; go_simp
        first | done | with_reducible rfl
      skip
      refine wpAnyH_take_at (i := 5) (some 22) (v := ?_) rfl rfl (by as_aux_lemma => kernel_rfl) (by as_aux_lemma => kernel_rfl) (by as_aux_lemma => kernel_rfl) (fun _ _ _ h => h) (Or.inl ⟨by kernel_rfl, ?_⟩) hS ?_
      rotate_left
      · intro w hSw; obtain ⟨g0, g1⟩ := hSw; go_simp
        first | done | with_reducible rfl
      skip
      refine wpAnyH_take_at (i := 6) (some 23) (v := ?_) rfl rfl (by as_aux_lemma => kernel_rfl) (by as_aux_lemma => kernel_rfl) (by as_aux_lemma => kernel_rfl) (fun _ _ _ h => h) (Or.inl ⟨by kernel_rfl, ?_⟩) hS ?_
      rotate_left
      · intro w hSw; obtain ⟨g0, g1⟩ := hSw; go_simp
        first | done | with_reducible rfl
      skip
      refine wpAnyH_take_at (i := 7) (some 24) (v := ?_) rfl rfl (by as_aux_lemma => kernel_rfl) (by as_aux_lemma => kernel_rfl) (by as_aux_lemma => kernel_rfl) (fun _ _ _ h => h) (Or.inl ⟨by kernel_rfl, ?_⟩) hS ?_
      rotate_left
      · intro w hSw; obtain ⟨g0, g1⟩ := hSw; go_simp
        first | done | with_reducible rfl
      skip
      refine wpAnyH_take_at (i := 8) (some 25) (v := ?_) rfl rfl (by as_aux_lemma => kernel_rfl) (by as_aux_lemma => kernel_rfl) (by as_aux_lemma => kernel_rfl) (fun _ _ _ h => h) (Or.inl ⟨by kernel_rfl, ?_⟩) hS ?_
      rotate_left
      · intro w hSw; obtain ⟨g0, g1⟩ := hSw; go_simp
        first | done | with_reducible rfl
      skip
      refine wpAnyH_done (by kernel_rfl) ?_ _
      clear hS e0 f0 hne
      go_simp
      cases hv : (x.toList == y.toList) with
      | true =>
        have HA3 := Lib.hid (HA2.out (HEq.out.1 hv))
        clear HA2 HN1 HEq
        go_wp2
        go_roundg (n - (k + 1))
        case measure => omega
        case rel => exact ⟨k + 1, by omega, by omega, by go_num, Lib.hid HB.out.drew, HA3⟩
      | false =>
        have HT : Hid (Tells P (.returned (.bool false))) := Lib.hid ⟨false, rfl, ⟨fun h => (by cases h), fun h => absurd h (HN1.out fun e => by rw [HEq.out.2 e] at hv; cases hv)⟩⟩
        clear HA2 HN1 HEq
        go_wp2
        go_ret
        exact ⟨HT.out, HB.out.drew⟩
    · obtain rfl : k = n := by omega
      have HT : Hid (Tells P (.returned (.bool true))) := Lib.hid ⟨true, rfl, ⟨fun _ => by
        rw [← HPP.out]
        exact List.ext_getElem HL.out fun i h1 h2 => HA.out i (by have := HLn.out; omega) h1 h2, fun _ => rfl⟩⟩
      clear HA
      go_wp2
      go_ret
      exact ⟨HT.out, HB.out⟩

theorem rt_store {p : World} {X : Nat} (r : Rt) (h : p.heap[X]? = some (.cells #[.int .i64 0, .slice none 0 0, .bool false, .slice none 0 0, .string ⟨#[]⟩, .int .i64 0, .int .i64 0, .int .i64 0] 33 (0, 0))) : RtBlk ((((((((p.setCell ⟨X, 0, none⟩ (.int .i64 r.par)).setCell ⟨X, 1, none⟩ (.slice r.ma r.ms.length r.mc)).setCell ⟨X, 2, none⟩ (.bool r.co)).setCell ⟨X, 3, none⟩ (.slice r.ba r.bys.length r.bc)).setCell ⟨X, 4, none⟩ (.string r.rc)).setCell ⟨X, 5, none⟩ (.int .i64 r.wt)).setCell ⟨X, 6, none⟩ (.int .i64 r.iv)).setCell ⟨X, 7, none⟩ (.int .i64 r.rp)) X (.slice r.ma r.ms.length r.mc) (.slice r.ba r.bys.length r.bc) r ∧ p.grownBy ((((((((p.setCell ⟨X, 0, none⟩ (.int .i64 r.par)).setCell ⟨X, 1, none⟩ (.slice r.ma r.ms.length r.mc)).setCell ⟨X, 2, none⟩ (.bool r.co)).setCell ⟨X, 3, none⟩ (.slice r.ba r.bys.length r.bc)).setCell ⟨X, 4, none⟩ (.string r.rc)).setCell ⟨X, 5, none⟩ (.int .i64 r.wt)).setCell ⟨X, 6, none⟩ (.int .i64 r.iv)).setCell ⟨X, 7, none⟩ (.int .i64 r.rp)) (some X) := by
  refine ⟨?_, (((((((grown_set p ⟨X, 0, none⟩ (.int .i64 r.par)).trans (grown_set _ ⟨X, 1, none⟩ (.slice r.ma r.ms.length r.mc))).trans (grown_set _ ⟨X, 2, none⟩ (.bool r.co))).trans (grown_set _ ⟨X, 3, none⟩ (.slice r.ba r.bys.length r.bc))).trans (grown_set _ ⟨X, 4, none⟩ (.string r.rc))).trans (grown_set _ ⟨X, 5, none⟩ (.int .i64 r.wt))).trans (grown_set _ ⟨X, 6, none⟩ (.int .i64 r.iv))).trans (grown_set _ ⟨X, 7, none⟩ (.int .i64 r.rp))⟩
  unfold RtBlk
  simp [World.setCell, Array.getElem?_modify, h]

theorem rl_store {p : World} {X : Nat} (r : Rl) (h : p.heap[X]? = some (.cells #[.slice none 0 0, .slice none 0 0, .slice none 0 0] 38 (0, 0))) : RuBlk (((p.setCell ⟨X, 0, none⟩ (.slice r.sa r.src.length r.sc)).setCell ⟨X, 1, none⟩ (.slice r.ta r.tgt.length r.tc)).setCell ⟨X, 2, none⟩ (.slice r.ea r.eqs.length r.ec)) X r ∧ p.grownBy (((p.setCell ⟨X, 0, none⟩ (.slice r.sa r.src.length r.sc)).setCell ⟨X, 1, none⟩ (.slice r.ta r.tgt.length r.tc)).setCell ⟨X, 2, none⟩ (.slice r.ea r.eqs.length r.ec)) (some X) := by
  refine ⟨?_, ((grown_set p ⟨X, 0, none⟩ (.slice r.sa r.src.length r.sc)).trans (grown_set _ ⟨X, 1, none⟩ (.slice r.ta r.tgt.length r.tc))).trans (grown_set _ ⟨X, 2, none⟩ (.slice r.ea r.eqs.length r.ec))⟩
  unfold RuBlk
  simp [World.setCell, Array.getElem?_modify, h]

set_option maxRecDepth 20000 in
set_option maxHeartbeats 8000000 in
theorem uSame_any (a : Option Addr) (c : Nat) (l : List Rt) (b : Option Addr) (d : Nat) (ls : List Rl) (pt rs : Int) (a2 : Option Addr) (c2 : Nat) (l2 : List Rt) (b2 : Option Addr) (d2 : Nat) (ls2 : List Rl) (pt2 rs2 : Int) (w : World) (h1 : RtsAt w a l) (h2 : RlsAt w b ls) (h3 : RtsAt w a2 l2) (h4 : RlsAt w b2 ls2)
    (n3 : l2.length ≤ 1000) (n4 : ls2.length ≤ 1000) (f1 : ∀ r ∈ l, RtFew r) (f2 : ∀ r ∈ ls, RuFew r) (f3 : ∀ r ∈ l2, RtFew r) (f4 : ∀ r ∈ ls2, RuFew r) :
    Calls Tryd.prog 14 #[.agg #[.slice a l.length c, .slice b ls.length d, .int .i64 pt, .int .i64 rs], .agg #[.slice a2 l2.length c2, .slice b2 ls2.length d2, .int .i64 pt2, .int .i64 rs2]] w fun e w' => Tells (SameC l ls pt rs l2 ls2 pt2 rs2) e ∧ Below w.heap.size w w' := by
  obtain ⟨w1, hw1⟩ : ∃ x, x = w.alloc (.cells #[.slice a l.length c, .slice b ls.length d, .int .i64 pt, .int .i64 rs] 25) := ⟨_, rfl⟩
  obtain ⟨w2, hw2⟩ : ∃ x, x = w1.alloc (.cells #[.slice a2 l2.length c2, .slice b2 ls2.length d2, .int .i64 pt2, .int .i64 rs2] 25) := ⟨_, rfl⟩
  have s1 : w1.heap.size = w.heap.size + 1 := by rw [hw1]; simp
  have d1' : Below w.heap.size w w1 := by rw [hw1]; exact (Below.refl w.heap.size w).alloc (Nat.le_refl _) _
  have d2' : Below w1.heap.size w1 w2 := by rw [hw2]; exact (Below.refl w1.heap.size w1).alloc (Nat.le_refl _) _
  have k1 : CfBlk w1 w.heap.size a l.length c b ls.length d pt rs := by rw [hw1]; exact heap_new w _
  have k2 : CfBlk w2 (w.heap.size + 1) a2 l2.length c2 b2 ls2.length d2 pt2 rs2 := by rw [hw2, ← s1]; exact heap_new w1 _
  have K1 := Lib.hid (k1.below d2')
  have K2 := Lib.hid k2
  have E2 := Lib.hid (d1'.trans (d2'.mono d1'.size))
  have H1 := Lib.hid h1
  have H2 := Lib.hid h2
  have H3 := Lib.hid h3
  have H4 := Lib.hid h4
  have F1 := Lib.hid f1
  have F2 := Lib.hid f2
  have F3 := Lib.hid f3
  have F4 := Lib.hid f4
  have HNo : Hid (¬ SameC l ls pt rs l2 ls2 pt2 rs2 → Tells (SameC l ls pt rs l2 ls2 pt2 rs2) (.returned (.bool false))) := Lib.hid fun h => ⟨false, rfl, by simp [h]⟩
  have HYes : Hid (SameC l ls pt rs l2 ls2 pt2 rs2 → Tells (SameC l ls pt rs l2 ls2 pt2 rs2) (.returned (.bool true))) := Lib.hid fun h => ⟨true, rfl, by simp [h]⟩
  have HI : Hid (SameC l ls pt rs l2 ls2 pt2 rs2 ↔ l.map nrm = l2.map nrm ∧ ls.map nrmL = ls2.map nrmL ∧ pt = pt2 ∧ rs = rs2) := Lib.hid Iff.rfl
  generalize SameC l ls pt rs l2 ls2 pt2 rs2 = P at *
  clear d1' d2' k1 k2 s1 h1 h2 h3 h4 f1 f2 f3 f4
  subst hw2
  subst hw1
  by_cases hl : l.length = l2.length
  case neg =>
    have hl' : ((l.length : Int) != (l2.length : Int)) = true := by simp; omega
    have HT := Lib.hid (HNo.out fun h => hl (by simpa using congrArg List.length (HI.out.1 h).1))
    clear HI HNo HYes hl
    go_enter Tryd.func14, Tryd.ntmps14
    go_wp2
    go_ret
    exact ⟨HT.out, E2.out⟩
  case pos =>
  by_cases hls : ls.length = ls2.length
  case neg =>
    have hl' : ((l.length : Int) != (l2.length : Int)) = false := by simp; omega
    have hls' : ((ls.length : Int) != (ls2.length : Int)) = true := by simp; omega
    have HT := Lib.hid (HNo.out fun h => hls (by simpa using congrArg List.length (HI.out.1 h).2.1))
    clear HI HNo HYes hls hl
    go_enter Tryd.func14, Tryd.ntmps14
    go_wp2
    go_ret
    exact ⟨HT.out, E2.out⟩
  case pos =>
  by_cases hpt : pt = pt2
  case neg =>
    have hl' : ((l.length : Int) != (l2.length : Int)) = false := by simp; omega
    have hls' : ((ls.length : Int) != (ls2.length : Int)) = false := by simp; omega
    have hpt' : (pt != pt2) = true := by simpa using hpt
    have HT := Lib.hid (HNo.out fun h => hpt (HI.out.1 h).2.2.1)
    clear HI HNo HYes hpt hls hl
    go_enter Tryd.func14, Tryd.ntmps14
    go_wp2
    go_ret
    exact ⟨HT.out, E2.out⟩
  case pos =>
  by_cases hrs : rs = rs2
  case neg =>
    have hl' : ((l.length : Int) != (l2.length : Int)) = false := by simp; omega
    have hls' : ((ls.length : Int) != (ls2.length : Int)) = false := by simp; omega
    have hpt' : (pt != pt2) = false := by simpa using hpt
    have hrs' : (rs != rs2) = true := by simpa using hrs
    have HT := Lib.hid (HNo.out fun h => hrs (HI.out.1 h).2.2.2)
    clear HI HNo HYes hpt hls hl hrs
    go_enter Tryd.func14, Tryd.ntmps14
    go_wp2
    go_ret
    exact ⟨HT.out, E2.out⟩
  case pos =>
  subst hpt hrs
  obtain ⟨n, hnn⟩ : ∃ n, n = l2.length := ⟨_, rfl⟩
  obtain ⟨m, hmm⟩ : ∃ m, m = ls2.length := ⟨_, rfl⟩
  have hl2 : l2.length = n := hnn.symm
  have hls2 : ls2.length = m := hmm.symm
  have hl1 : l.length = n := hl.trans hl2
  have hls1 : ls.length = m := hls.trans hls2
  have HNn := Lib.hid hl2
  have HMm := Lib.hid hls2
  have HLn := Lib.hid hl1
  have HLm := Lib.hid hls1
  have hnb : n ≤ 1000 := by omega
  have hmb : m ≤ 1000 := by omega
  simp only [hl1, hl2, hls1, hls2] at K1 K2 E2 ⊢
  clear hl1 hl2 hls1 hls2
  clear hl hls hnn hmm n3 n4
  go_enter Tryd.func14, Tryd.ntmps14
  go_wp2
  go_loopg [5, 6, 7] n (fun gg s5 _ _ wr => ∃ k : Nat, k ≤ n ∧ n - k ≤ gg ∧ s5 = .int .i64 k ∧ Hid (Below w.heap.size w wr) ∧ Hid (CfBlk wr w.heap.size a n c b m d pt rs) ∧ Hid (CfBlk wr (w.heap.size + 1) a2 n c2 b2 m d2 pt rs) ∧ Hid (∀ j (_ : j < k) (hj : j < l.length) (hj2 : j < l2.length), nrm l[j] = nrm l2[j]))
  case atStart => exact ⟨0, Nat.zero_le _, by omega, rfl, E2, K1, K2, Lib.hid fun j hj => absurd hj (Nat.not_lt_zero _)⟩
  case round =>
    clear E2 K1 K2
    obtain ⟨k, hk, hg, rfl, HB, K1, K2, HA⟩ := hrel
    have ca : wr.cell? ⟨w.heap.size, 0, none⟩ = some (.slice a n c) := cell_heap K1.out
    have cb : wr.cell? ⟨w.heap.size + 1, 0, none⟩ = some (.slice a2 n c2) := cell_heap K2.out
    by_cases hlt : k < n
    · have hkl : (k : Int) < (n : Int) := by omega
      have hk1 : k < l.length := by have := HLn.out; omega
      have hk2 : k < l2.length := by have := HNn.out; omega
      obtain ⟨b1, o1, rfl, hb1, hcx⟩ := H1.out (by omega)
      obtain ⟨b3, o3, rfl, hb3, hcy⟩ := H3.out (by omega)
      obtain ⟨hx1, hx2⟩ := hcx k hk1
      obtain ⟨hy1, hy2⟩ := hcy k hk2
      have HN1 : Hid (¬ (nrm l[k] = nrm l2[k]) → ¬ P) := Lib.hid fun h hp => h (by simpa [hk1, hk2] using congrArg (fun q : List Rt => q[k]?) (HI.out.1 hp).1)
      have HA2 : Hid (nrm l[k] = nrm l2[k] → ∀ j (_ : j < k + 1) (hj : j < l.length) (hj2 : j < l2.length), nrm l[j] = nrm l2[j]) := Lib.hid fun h0 j hj h1 h2 => by
        by_cases e : j = k
        · subst e; exact h0
        · exact HA.out j (by omega) h1 h2
      have hfr := F1.out _ (List.getElem_mem hk1)
      have hfs := F3.out _ (List.getElem_mem hk2)
      replace hx2 : RtAt w l[k] := hx2
      replace hy2 : RtAt w l2[k] := hy2
      clear hcx hcy HA
      generalize l[k] = r at *
      generalize l2[k] = s at *
      clear hk1 hk2
      have e0 : wr.cell? ⟨b1, o1 + k * 8, none⟩ = some (.int .i64 r.par) := (HB.out.cell (p := ⟨b1, o1 + k * 8, none⟩) hb1).trans (hx1 0 _ rfl)
      have f0 : wr.cell? ⟨b3, o3 + k * 8, none⟩ = some (.int .i64 s.par) := (HB.out.cell (p := ⟨b3, o3 + k * 8, none⟩) hb3).trans (hy1 0 _ rfl)
      have e1 : wr.cell? ⟨b1, o1 + k * 8 + 1, none⟩ = some (.slice r.ma r.ms.length r.mc) := (HB.out.cell (p := ⟨b1, o1 + k * 8 + 1, none⟩) hb1).trans (hx1 1 _ rfl)
      have f1 : wr.cell? ⟨b3, o3 + k * 8 + 1, none⟩ = some (.slice s.ma s.ms.length s.mc) := (HB.out.cell (p := ⟨b3, o3 + k * 8 + 1, none⟩) hb3).trans (hy1 1 _ rfl)
      have e2 : wr.cell? ⟨b1, o1 + k * 8 + 2, none⟩ = some (.bool r.co) := (HB.out.cell (p := ⟨b1, o1 + k * 8 + 2, none⟩) hb1).trans (hx1 2 _ rfl)
      have f2 : wr.cell? ⟨b3, o3 + k * 8 + 2, none⟩ = some (.bool s.co) := (HB.out.cell (p := ⟨b3, o3 + k * 8 + 2, none⟩) hb3).trans (hy1 2 _ rfl)
      have e3 : wr.cell? ⟨b1, o1 + k * 8 + 3, none⟩ = some (.slice r.ba r.bys.length r.bc) := (HB.out.cell (p := ⟨b1, o1 + k * 8 + 3, none⟩) hb1).trans (hx1 3 _ rfl)
      have f3 : wr.cell? ⟨b3, o3 + k * 8 + 3, none⟩ = some (.slice s.ba s.bys.length s.bc) := (HB.out.cell (p := ⟨b3, o3 + k * 8 + 3, none⟩) hb3).trans (hy1 3 _ rfl)
      have e4 : wr.cell? ⟨b1, o1 + k * 8 + 4, none⟩ = some (.string r.rc) := (HB.out.cell (p := ⟨b1, o1 + k * 8 + 4, none⟩) hb1).trans (hx1 4 _ rfl)
      have f4 : wr.cell? ⟨b3, o3 + k * 8 + 4, none⟩ = some (.string s.rc) := (HB.out.cell (p := ⟨b3, o3 + k * 8 + 4, none⟩) hb3).trans (hy1 4 _ rfl)
      have e5 : wr.cell? ⟨b1, o1 + k * 8 + 5, none⟩ = some (.int .i64 r.wt) := (HB.out.cell (p := ⟨b1, o1 + k * 8 + 5, none⟩) hb1).trans (hx1 5 _ rfl)
      have f5 : wr.cell? ⟨b3, o3 + k * 8 + 5, none⟩ = some (.int .i64 s.wt) := (HB.out.cell (p := ⟨b3, o3 + k * 8 + 5, none⟩) hb3).trans (hy1 5 _ rfl)
      have e6 : wr.cell? ⟨b1, o1 + k * 8 + 6, none⟩ = some (.int .i64 r.iv) := (HB.out.cell (p := ⟨b1, o1 + k * 8 + 6, none⟩) hb1).trans (hx1 6 _ rfl)
      have f6 : wr.cell? ⟨b3, o3 + k * 8 + 6, none⟩ = some (.int .i64 s.iv) := (HB.out.cell (p := ⟨b3, o3 + k * 8 + 6, none⟩) hb3).trans (hy1 6 _ rfl)
      have e7 : wr.cell? ⟨b1, o1 + k * 8 + 7, none⟩ = some (.int .i64 r.rp) := (HB.out.cell (p := ⟨b1, o1 + k * 8 + 7, none⟩) hb1).trans (hx1 7 _ rfl)
      have f7 : wr.cell? ⟨b3, o3 + k * 8 + 7, none⟩ = some (.int .i64 s.rp) := (HB.out.cell (p := ⟨b3, o3 + k * 8 + 7, none⟩) hb3).trans (hy1 7 _ rfl)
      go_wp2_with fail
      refine wp_region_any (by kernel_rfl) ?_
      change wpAny _ _ _ _ _ _ _ (World.drew _)
      have hS : (fun w' : World => w'.cell? ⟨w.heap.size, 0, none⟩ = some (.slice (some ⟨b1, o1, none⟩) n c) ∧ w'.cell? ⟨w.heap.size + 1, 0, none⟩ = some (.slice (some ⟨b3, o3, none⟩) n c2) ∧ w'.cell? ⟨b1, o1 + k * 8, none⟩ = some (.int .i64 r.par) ∧ w'.cell? ⟨b1, o1 + k * 8 + 1, none⟩ = some (.slice r.ma r.ms.length r.mc) ∧ w'.cell? ⟨b1, o1 + k * 8 + 2, none⟩ = some (.bool r.co) ∧ w'.cell? ⟨b1, o1 + k * 8 + 3, none⟩ = some (.slice r.ba r.bys.length r.bc) ∧ w'.cell? ⟨b1, o1 + k * 8 + 4, none⟩ = some (.string r.rc) ∧ w'.cell? ⟨b1, o1 + k * 8 + 5, none⟩ = some (.int .i64 r.wt) ∧ w'.cell? ⟨b1, o1 + k * 8 + 6, none⟩ = some (.int .i64 r.iv) ∧ w'.cell? ⟨b1, o1 + k * 8 + 7, none⟩ = some (.int .i64 r.rp) ∧ w'.cell? ⟨b3, o3 + k * 8, none⟩ = some (.int .i64 s.par) ∧ w'.cell? ⟨b3, o3 + k * 8 + 1, none⟩ = some (.slice s.ma s.ms.length s.mc) ∧ w'.cell? ⟨b3, o3 + k * 8 + 2, none⟩ = some (.bool s.co) ∧ w'.cell? ⟨b3, o3 + k * 8 + 3, none⟩ = some (.slice s.ba s.bys.length s.bc) ∧ w'.cell? ⟨b3, o3 + k * 8 + 4, none⟩ = some (.string s.rc) ∧ w'.cell? ⟨b3, o3 + k * 8 + 5, none⟩ = some (.int .i64 s.wt) ∧ w'.cell? ⟨b3, o3 + k * 8 + 6, none⟩ = some (.int .i64 s.iv) ∧ w'.cell? ⟨b3, o3 + k * 8 + 7, none⟩ = some (.int .i64 s.rp)) wr.drew := ⟨ca, cb, e0, e1, e2, e3, e4, e5, e6, e7, f0, f1, f2, f3, f4, f5, f6, f7⟩
      refine wpAny_of_held (S := fun w' => w'.cell? ⟨w.heap.size, 0, none⟩ = some (.slice (some ⟨b1, o1, none⟩) n c) ∧ w'.cell? ⟨w.heap.size + 1, 0, none⟩ = some (.slice (some ⟨b3, o3, none⟩) n c2) ∧ w'.cell? ⟨b1, o1 + k * 8, none⟩ = some (.int .i64 r.par) ∧ w'.cell? ⟨b1, o1 + k * 8 + 1, none⟩ = some (.slice r.ma r.ms.length r.mc) ∧ w'.cell? ⟨b1, o1 + k * 8 + 2, none⟩ = some (.bool r.co) ∧ w'.cell? ⟨b1, o1 + k * 8 + 3, none⟩ = some (.slice r.ba r.bys.length r.bc) ∧ w'.cell? ⟨b1, o1 + k * 8 + 4, none⟩ = some (.string r.rc) ∧ w'.cell? ⟨b1, o1 + k * 8 + 5, none⟩ = some (.int .i64 r.wt) ∧ w'.cell? ⟨b1, o1 + k * 8 + 6, none⟩ = some (.int .i64 r.iv) ∧ w'.cell? ⟨b1, o1 + k * 8 + 7, none⟩ = some (.int .i64 r.rp) ∧ w'.cell? ⟨b3, o3 + k * 8, none⟩ = some (.int .i64 s.par) ∧ w'.cell? ⟨b3, o3 + k * 8 + 1, none⟩ = some (.slice s.ma s.ms.length s.mc) ∧ w'.cell? ⟨b3, o3 + k * 8 + 2, none⟩ = some (.bool s.co) ∧ w'.cell? ⟨b3, o3 + k * 8 + 3, none⟩ = some (.slice s.ba s.bys.length s.bc) ∧ w'.cell? ⟨b3, o3 + k * 8 + 4, none⟩ = some (.string s.rc) ∧ w'.cell? ⟨b3, o3 + k * 8 + 5, none⟩ = some (.int .i64 s.wt) ∧ w'.cell? ⟨b3, o3 + k * 8 + 6, none⟩ = some (.int .i64 s.iv) ∧ w'.cell? ⟨b3, o3 + k * 8 + 7, none⟩ = some (.int .i64 s.rp)) _ _ _ _ ?_
      refine wpAnyH_take_at (i := 0) (some 48) (v := ?_) rfl rfl (by as_aux_lemma => kernel_rfl) (by as_aux_lemma => kernel_rfl) (by as_aux_lemma => kernel_rfl) (fun _ _ _ h => h) (Or.inl ⟨by kernel_rfl, ?_⟩) hS ?_
      rotate_left
      · intro w hSw; obtain ⟨g0, g1, g2, g3, g4, g5, g6, g7, g8, g9, g10, g11, g12, g13, g14, g15, g16, g17⟩ := hSw; go_simp
        first | done | with_reducible rfl
      refine wpAnyH_take_at (i := 1) (some 49) (v := ?_) rfl rfl (by as_aux_lemma => kernel_rfl) (by as_aux_lemma => kernel_rfl) (by as_aux_lemma => kernel_rfl) (fun _ _ _ h => h) (Or.inl ⟨by kernel_rfl, ?_⟩) hS ?_
      rotate_left
      · intro w hSw; obtain ⟨g0, g1, g2, g3, g4, g5, g6, g7, g8, g9, g10, g11, g12, g13, g14, g15, g16, g17⟩ := hSw; go_simp
        first | done | with_reducible rfl
      refine wpAnyH_take_at (i := 2) (some 50) (v := ?_) rfl rfl (by as_aux_lemma => kernel_rfl) (by as_aux_lemma => kernel_rfl) (by as_aux_lemma => kernel_rfl) (fun _ _ _ h => h) (Or.inl ⟨by kernel_rfl, ?_⟩) hS ?_
      rotate_left
      · intro w hSw; obtain ⟨g0, g1, g2, g3, g4, g5, g6, g7, g8, g9, g10, g11, g12, g13, g14, g15, g16, g17⟩ := hSw; go_simp
        first | done | with_reducible rfl
      refine wpAnyH_take_at (i := 3) (some 51) (v := ?_) rfl rfl (by as_aux_lemma => kernel_rfl) (by as_aux_lemma => kernel_rfl) (by as_aux_lemma => kernel_rfl) (fun _ _ _ h => h) (Or.inl ⟨by kernel_rfl, ?_⟩) hS ?_
      rotate_left
      · intro w hSw; obtain ⟨g0, g1, g2, g3, g4, g5, g6, g7, g8, g9, g10, g11, g12, g13, g14, g15, g16, g17⟩ := hSw; go_simp
        first | done | with_reducible rfl
      refine wpAnyH_take_at (i := 4) (some 52) (v := ?_) rfl rfl (by as_aux_lemma => kernel_rfl) (by as_aux_lemma => kernel_rfl) (by as_aux_lemma => kernel_rfl) (fun _ _ _ h => h) (Or.inl ⟨by kernel_rfl, ?_⟩) hS ?_
      rotate_left
      · intro w hSw; obtain ⟨g0, g1, g2, g3, g4, g5, g6, g7, g8, g9, g10, g11, g12, g13, g14, g15, g16, g17⟩ := hSw; go_simp
        first | done | with_reducible rfl
      refine wpAnyH_take_at (i := 5) (some 53) (v := ?_) rfl rfl (by as_aux_lemma => kernel_rfl) (by as_aux_lemma => kernel_rfl) (by as_aux_lemma => kernel_rfl) (fun _ _ _ h => h) (Or.inl ⟨by kernel_rfl, ?_⟩) hS ?_
      rotate_left
      · intro w hSw; obtain ⟨g0, g1, g2, g3, g4, g5, g6, g7, g8, g9, g10, g11, g12, g13, g14, g15, g16, g17⟩ := hSw; go_simp
        first | done | with_reducible rfl
      refine wpAnyH_take_at (i := 6) (some 54) (v := ?_) rfl rfl (by as_aux_lemma => kernel_rfl) (by as_aux_lemma => kernel_rfl) (by as_aux_lemma => kernel_rfl) (fun _ _ _ h => h) (Or.inl ⟨by kernel_rfl, ?_⟩) hS ?_
      rotate_left
      · intro w hSw; obtain ⟨g0, g1, g2, g3, g4, g5, g6, g7, g8, g9, g10, g11, g12, g13, g14, g15, g16, g17⟩ := hSw; go_simp
        first | done | with_reducible rfl
      refine wpAnyH_take_at (i := 7) (some 55) (v := ?_) rfl rfl (by as_aux_lemma => kernel_rfl) (by as_aux_lemma => kernel_rfl) (by as_aux_lemma => kernel_rfl) (fun _ _ _ h => h) (Or.inl ⟨by kernel_rfl, ?_⟩) hS ?_
      rotate_left
      · intro w hSw; obtain ⟨g0, g1, g2, g3, g4, g5, g6, g7, g8, g9, g10, g11, g12, g13, g14, g15, g16, g17⟩ := hSw; go_simp
        first | done | with_reducible rfl
      refine wpAnyH_take_at (i := 8) (some 56) (v := ?_) rfl rfl (by as_aux_lemma => kernel_rfl) (by as_aux_lemma => kernel_rfl) (by as_aux_lemma => kernel_rfl) (fun _ _ _ h => h) (Or.inl ⟨by kernel_rfl, ?_⟩) hS ?_
      rotate_left
      · intro w hSw; obtain ⟨g0, g1, g2, g3, g4, g5, g6, g7, g8, g9, g10, g11, g12, g13, g14, g15, g16, g17⟩ := hSw; go_simp
        first | done | with_reducible rfl
      refine wpAnyH_take_at (i := 9) (some 57) (v := ?_) rfl rfl (by as_aux_lemma => kernel_rfl) (by as_aux_lemma => kernel_rfl) (by as_aux_lemma => kernel_rfl) (fun _ _ _ h => h) (Or.inl ⟨by kernel_rfl, ?_⟩) hS ?_
      rotate_left
      · intro w hSw; obtain ⟨g0, g1, g2, g3, g4, g5, g6, g7, g8, g9, g10, g11, g12, g13, g14, g15, g16, g17⟩ := hSw; go_simp
        first | done | with_reducible rfl
      have hf : Below wr.heap.size wr wr.drew := (Below.refl _ _).drew
      have hsz : wr.heap.size ≤ wr.drew.heap.size := Nat.le_refl _
      have hCl : w.heap.size + 1 < wr.heap.size := lt_of_block K2.out
      generalize wr.drew = p0 at *
      refine wpAnyH_ready (rs := [10, 11]) (by as_aux_lemma => kernel_rfl) (by simp) ?_
      refine AllReadyH.cons rfl (fun K hK => ?_) (AllReadyH.cons rfl (fun K hK => ?_) AllReadyH.nil)
      · go_simp
        go_wp2_with fail
        have q := (Below.refl p0.heap.size p0).alloc (Nat.le_refl _) (.cells #[.int .i64 0, .slice none 0 0, .bool false, .slice none 0 0, .string ⟨#[]⟩, .int .i64 0, .int .i64 0, .int .i64 0] 33)
        have hX : (p0.alloc (.cells #[.int .i64 0, .slice none 0 0, .bool false, .slice none 0 0, .string ⟨#[]⟩, .int .i64 0, .int .i64 0, .int .i64 0] 33)).heap[p0.heap.size]? = some (.cells #[.int .i64 0, .slice none 0 0, .bool false, .slice none 0 0, .string ⟨#[]⟩, .int .i64 0, .int .i64 0, .int .i64 0] 33 (0, 0)) := heap_new p0 _
        have hghX : wr.heap.size ≤ p0.heap.size := hsz
        refine hK.out _ _ ?_ (fun hS => ?_)
        · exact ⟨(q.cell (p := ⟨w.heap.size, 0, none⟩) (World.block_lt_of_cell? _ _ hS.1)).trans hS.1, (q.cell (p := ⟨w.heap.size + 1, 0, none⟩) (World.block_lt_of_cell? _ _ hS.2.1)).trans hS.2.1, (q.cell (p := ⟨b1, o1 + k * 8, none⟩) (World.block_lt_of_cell? _ _ hS.2.2.1)).trans hS.2.2.1, (q.cell (p := ⟨b1, o1 + k * 8 + 1, none⟩) (World.block_lt_of_cell? _ _ hS.2.2.2.1)).trans hS.2.2.2.1, (q.cell (p := ⟨b1, o1 + k * 8 + 2, none⟩) (World.block_lt_of_cell? _ _ hS.2.2.2.2.1)).trans hS.2.2.2.2.1, (q.cell (p := ⟨b1, o1 + k * 8 + 3, none⟩) (World.block_lt_of_cell? _ _ hS.2.2.2.2.2.1)).trans hS.2.2.2.2.2.1, (q.cell (p := ⟨b1, o1 + k * 8 + 4, none⟩) (World.block_lt_of_cell? _ _ hS.2.2.2.2.2.2.1)).trans hS.2.2.2.2.2.2.1, (q.cell (p := ⟨b1, o1 + k * 8 + 5, none⟩) (World.block_lt_of_cell? _ _ hS.2.2.2.2.2.2.2.1)).trans hS.2.2.2.2.2.2.2.1, (q.cell (p := ⟨b1, o1 + k * 8 + 6, none⟩) (World.block_lt_of_cell? _ _ hS.2.2.2.2.2.2.2.2.1)).trans hS.2.2.2.2.2.2.2.2.1, (q.cell (p := ⟨b1, o1 + k * 8 + 7, none⟩) (World.block_lt_of_cell? _ _ hS.2.2.2.2.2.2.2.2.2.1)).trans hS.2.2.2.2.2.2.2.2.2.1, (q.cell (p := ⟨b3, o3 + k * 8, none⟩) (World.block_lt_of_cell? _ _ hS.2.2.2.2.2.2.2.2.2.2.1)).trans hS.2.2.2.2.2.2.2.2.2.2.1, (q.cell (p := ⟨b3, o3 + k * 8 + 1, none⟩) (World.block_lt_of_cell? _ _ hS.2.2.2.2.2.2.2.2.2.2.2.1)).trans hS.2.2.2.2.2.2.2.2.2.2.2.1, (q.cell (p := ⟨b3, o3 + k * 8 + 2, none⟩) (World.block_lt_of_cell? _ _ hS.2.2.2.2.2.2.2.2.2.2.2.2.1)).trans hS.2.2.2.2.2.2.2.2.2.2.2.2.1, (q.cell (p := ⟨b3, o3 + k * 8 + 3, none⟩) (World.block_lt_of_cell? _ _ hS.2.2.2.2.2.2.2.2.2.2.2.2.2.1)).trans hS.2.2.2.2.2.2.2.2.2.2.2.2.2.1, (q.cell (p := ⟨b3, o3 + k * 8 + 4, none⟩) (World.block_lt_of_cell? _ _ hS.2.2.2.2.2.2.2.2.2.2.2.2.2.2.1)).trans hS.2.2.2.2.2.2.2.2.2.2.2.2.2.2.1, (q.cell (p := ⟨b3, o3 + k * 8 + 5, none⟩) (World.block_lt_of_cell? _ _ hS.2.2.2.2.2.2.2.2.2.2.2.2.2.2.2.1)).trans hS.2.2.2.2.2.2.2.2.2.2.2.2.2.2.2.1, (q.cell (p := ⟨b3, o3 + k * 8 + 6, none⟩) (World.block_lt_of_cell? _ _ hS.2.2.2.2.2.2.2.2.2.2.2.2.2.2.2.2.1)).trans hS.2.2.2.2.2.2.2.2.2.2.2.2.2.2.2.2.1, (q.cell (p := ⟨b3, o3 + k * 8 + 7, none⟩) (World.block_lt_of_cell? _ _ hS.2.2.2.2.2.2.2.2.2.2.2.2.2.2.2.2.2)).trans hS.2.2.2.2.2.2.2.2.2.2.2.2.2.2.2.2.2⟩
        clear hK K
        replace hf := hf.trans (q.mono hf.size)
        replace hsz := Nat.le_trans hsz q.size
        clear q
        generalize p0.alloc (.cells #[.int .i64 0, .slice none 0 0, .bool false, .slice none 0 0, .string ⟨#[]⟩, .int .i64 0, .int .i64 0, .int .i64 0] 33) = p1 at *
        refine wpAnyH_ready (rs := [11]) (by as_aux_lemma => kernel_rfl) (by simp) ?_
        refine AllReadyH.cons rfl (fun K hK => ?_) AllReadyH.nil
        · go_simp
          go_wp2_with fail
          have hxy := Nat.ne_of_lt (lt_of_block hX)
          have q := (Below.refl p1.heap.size p1).alloc (Nat.le_refl _) (.cells #[.int .i64 0, .slice none 0 0, .bool false, .slice none 0 0, .string ⟨#[]⟩, .int .i64 0, .int .i64 0, .int .i64 0] 33)
          replace hX := (q.block _ (lt_of_block hX)).trans hX
          have hY : (p1.alloc (.cells #[.int .i64 0, .slice none 0 0, .bool false, .slice none 0 0, .string ⟨#[]⟩, .int .i64 0, .int .i64 0, .int .i64 0] 33)).heap[p1.heap.size]? = some (.cells #[.int .i64 0, .slice none 0 0, .bool false, .slice none 0 0, .string ⟨#[]⟩, .int .i64 0, .int .i64 0, .int .i64 0] 33 (0, 0)) := heap_new p1 _
          have hghY : wr.heap.size ≤ p1.heap.size := hsz
          refine hK.out _ _ ?_ (fun hS => ?_)
          · exact ⟨(q.cell (p := ⟨w.heap.size, 0, none⟩) (World.block_lt_of_cell? _ _ hS.1)).trans hS.1, (q.cell (p := ⟨w.heap.size + 1, 0, none⟩) (World.block_lt_of_cell? _ _ hS.2.1)).trans hS.2.1, (q.cell (p := ⟨b1, o1 + k * 8, none⟩) (World.block_lt_of_cell? _ _ hS.2.2.1)).trans hS.2.2.1, (q.cell (p := ⟨b1, o1 + k * 8 + 1, none⟩) (World.block_lt_of_cell? _ _ hS.2.2.2.1)).trans hS.2.2.2.1, (q.cell (p := ⟨b1, o1 + k * 8 + 2, none⟩) (World.block_lt_of_cell? _ _ hS.2.2.2.2.1)).trans hS.2.2.2.2.1, (q.cell (p := ⟨b1, o1 + k * 8 + 3, none⟩) (World.block_lt_of_cell? _ _ hS.2.2.2.2.2.1)).trans hS.2.2.2.2.2.1, (q.cell (p := ⟨b1, o1 + k * 8 + 4, none⟩) (World.block_lt_of_cell? _ _ hS.2.2.2.2.2.2.1)).trans hS.2.2.2.2.2.2.1, (q.cell (p := ⟨b1, o1 + k * 8 + 5, none⟩) (World.block_lt_of_cell? _ _ hS.2.2.2.2.2.2.2.1)).trans hS.2.2.2.2.2.2.2.1, (q.cell (p := ⟨b1, o1 + k * 8 + 6, none⟩) (World.block_lt_of_cell? _ _ hS.2.2.2.2.2.2.2.2.1)).trans hS.2.2.2.2.2.2.2.2.1, (q.cell (p := ⟨b1, o1 + k * 8 + 7, none⟩) (World.block_lt_of_cell? _ _ hS.2.2.2.2.2.2.2.2.2.1)).trans hS.2.2.2.2.2.2.2.2.2.1, (q.cell (p := ⟨b3, o3 + k * 8, none⟩) (World.block_lt_of_cell? _ _ hS.2.2.2.2.2.2.2.2.2.2.1)).trans hS.2.2.2.2.2.2.2.2.2.2.1, (q.cell (p := ⟨b3, o3 + k * 8 + 1, none⟩) (World.block_lt_of_cell? _ _ hS.2.2.2.2.2.2.2.2.2.2.2.1)).trans hS.2.2.2.2.2.2.2.2.2.2.2.1, (q.cell (p := ⟨b3, o3 + k * 8 + 2, none⟩) (World.block_lt_of_cell? _ _ hS.2.2.2.2.2.2.2.2.2.2.2.2.1)).trans hS.2.2.2.2.2.2.2.2.2.2.2.2.1, (q.cell (p := ⟨b3, o3 + k * 8 + 3, none⟩) (World.block_lt_of_cell? _ _ hS.2.2.2.2.2.2.2.2.2.2.2.2.2.1)).trans hS.2.2.2.2.2.2.2.2.2.2.2.2.2.1, (q.cell (p := ⟨b3, o3 + k * 8 + 4, none⟩) (World.block_lt_of_cell? _ _ hS.2.2.2.2.2.2.2.2.2.2.2.2.2.2.1)).trans hS.2.2.2.2.2.2.2.2.2.2.2.2.2.2.1, (q.cell (p := ⟨b3, o3 + k * 8 + 5, none⟩) (World.block_lt_of_cell? _ _ hS.2.2.2.2.2.2.2.2.2.2.2.2.2.2.2.1)).trans hS.2.2.2.2.2.2.2.2.2.2.2.2.2.2.2.1, (q.cell (p := ⟨b3, o3 + k * 8 + 6, none⟩) (World.block_lt_of_cell? _ _ hS.2.2.2.2.2.2.2.2.2.2.2.2.2.2.2.2.1)).trans hS.2.2.2.2.2.2.2.2.2.2.2.2.2.2.2.2.1, (q.cell (p := ⟨b3, o3 + k * 8 + 7, none⟩) (World.block_lt_of_cell? _ _ hS.2.2.2.2.2.2.2.2.2.2.2.2.2.2.2.2.2)).trans hS.2.2.2.2.2.2.2.2.2.2.2.2.2.2.2.2.2⟩
          clear hK K
          replace hf := hf.trans (q.mono hf.size)
          replace hsz := Nat.le_trans hsz q.size
          clear q
          generalize p1.alloc (.cells #[.int .i64 0, .slice none 0 0, .bool false, .slice none 0 0, .string ⟨#[]⟩, .int .i64 0, .int .i64 0, .int .i64 0] 33) = p2 at *
          refine wpAnyH_ready (rs := [12]) (by as_aux_lemma => kernel_rfl) (by simp) ?_
          refine AllReadyH.cons rfl (fun K hK => ?_) AllReadyH.nil
          · have fz := fun j => frozen_of (j := j) hX
            have fz0 := fz 0
            have cz0 : p2.cell? ⟨p0.heap.size, 0, none⟩ = some (.int .i64 0) := cell_heap hX
            have fz1 := fz 1
            have cz1 : p2.cell? ⟨p0.heap.size, 1, none⟩ = some (.slice none 0 0) := cell_heap hX
            have fz2 := fz 2
            have cz2 : p2.cell? ⟨p0.heap.size, 2, none⟩ = some (.bool false) := cell_heap hX
            have fz3 := fz 3
            have cz3 : p2.cell? ⟨p0.heap.size, 3, none⟩ = some (.slice none 0 0) := cell_heap hX
            have fz4 := fz 4
            have cz4 : p2.cell? ⟨p0.heap.size, 4, none⟩ = some (.string ⟨#[]⟩) := cell_heap hX
            have fz5 := fz 5
            have cz5 : p2.cell? ⟨p0.heap.size, 5, none⟩ = some (.int .i64 0) := cell_heap hX
            have fz6 := fz 6
            have cz6 : p2.cell? ⟨p0.heap.size, 6, none⟩ = some (.int .i64 0) := cell_heap hX
            have fz7 := fz 7
            have cz7 : p2.cell? ⟨p0.heap.size, 7, none⟩ = some (.int .i64 0) := cell_heap hX
            clear fz
            have hst := rt_store (X := p0.heap.size) r hX
            go_simp
            go_wp2_with fail
            replace hY := (hst.2.block _ (lt_of_block hY) (fun e => by injection e with e; omega)).trans hY
            refine hK.out _ _ ?_ (fun hS => ?_)
            · exact ⟨(World.cell?_of_block (a := ⟨w.heap.size, 0, none⟩) (hst.2.block _ (World.block_lt_of_cell? _ _ hS.1) (fun e => by injection e with e; simp only at e; omega))).trans hS.1, (World.cell?_of_block (a := ⟨w.heap.size + 1, 0, none⟩) (hst.2.block _ (World.block_lt_of_cell? _ _ hS.2.1) (fun e => by injection e with e; simp only at e; omega))).trans hS.2.1, (World.cell?_of_block (a := ⟨b1, o1 + k * 8, none⟩) (hst.2.block _ (World.block_lt_of_cell? _ _ hS.2.2.1) (fun e => by injection e with e; simp only at e; omega))).trans hS.2.2.1, (World.cell?_of_block (a := ⟨b1, o1 + k * 8 + 1, none⟩) (hst.2.block _ (World.block_lt_of_cell? _ _ hS.2.2.2.1) (fun e => by injection e with e; simp only at e; omega))).trans hS.2.2.2.1, (World.cell?_of_block (a := ⟨b1, o1 + k * 8 + 2, none⟩) (hst.2.block _ (World.block_lt_of_cell? _ _ hS.2.2.2.2.1) (fun e => by injection e with e; simp only at e; omega))).trans hS.2.2.2.2.1, (World.cell?_of_block (a := ⟨b1, o1 + k * 8 + 3, none⟩) (hst.2.block _ (World.block_lt_of_cell? _ _ hS.2.2.2.2.2.1) (fun e => by injection e with e; simp only at e; omega))).trans hS.2.2.2.2.2.1, (World.cell?_of_block (a := ⟨b1, o1 + k * 8 + 4, none⟩) (hst.2.block _ (World.block_lt_of_cell? _ _ hS.2.2.2.2.2.2.1) (fun e => by injection e with e; simp only at e; omega))).trans hS.2.2.2.2.2.2.1, (World.cell?_of_block (a := ⟨b1, o1 + k * 8 + 5, none⟩) (hst.2.block _ (World.block_lt_of_cell? _ _ hS.2.2.2.2.2.2.2.1) (fun e => by injection e with e; simp only at e; omega))).trans hS.2.2.2.2.2.2.2.1, (World.cell?_of_block (a := ⟨b1, o1 + k * 8 + 6, none⟩) (hst.2.block _ (World.block_lt_of_cell? _ _ hS.2.2.2.2.2.2.2.2.1) (fun e => by injection e with e; simp only at e; omega))).trans hS.2.2.2.2.2.2.2.2.1, (World.cell?_of_block (a := ⟨b1, o1 + k * 8 + 7, none⟩) (hst.2.block _ (World.block_lt_of_cell? _ _ hS.2.2.2.2.2.2.2.2.2.1) (fun e => by injection e with e; simp only at e; omega))).trans hS.2.2.2.2.2.2.2.2.2.1, (World.cell?_of_block (a := ⟨b3, o3 + k * 8, none⟩) (hst.2.block _ (World.block_lt_of_cell? _ _ hS.2.2.2.2.2.2.2.2.2.2.1) (fun e => by injection e with e; simp only at e; omega))).trans hS.2.2.2.2.2.2.2.2.2.2.1, (World.cell?_of_block (a := ⟨b3, o3 + k * 8 + 1, none⟩) (hst.2.block _ (World.block_lt_of_cell? _ _ hS.2.2.2.2.2.2.2.2.2.2.2.1) (fun e => by injection e with e; simp only at e; omega))).trans hS.2.2.2.2.2.2.2.2.2.2.2.1, (World.cell?_of_block (a := ⟨b3, o3 + k * 8 + 2, none⟩) (hst.2.block _ (World.block_lt_of_cell? _ _ hS.2.2.2.2.2.2.2.2.2.2.2.2.1) (fun e => by injection e with e; simp only at e; omega))).trans hS.2.2.2.2.2.2.2.2.2.2.2.2.1, (World.cell?_of_block (a := ⟨b3, o3 + k * 8 + 3, none⟩) (hst.2.block _ (World.block_lt_of_cell? _ _ hS.2.2.2.2.2.2.2.2.2.2.2.2.2.1) (fun e => by injection e with e; simp only at e; omega))).trans hS.2.2.2.2.2.2.2.2.2.2.2.2.2.1, (World.cell?_of_block (a := ⟨b3, o3 + k * 8 + 4, none⟩) (hst.2.block _ (World.block_lt_of_cell? _ _ hS.2.2.2.2.2.2.2.2.2.2.2.2.2.2.1) (fun e => by injection e with e; simp only at e; omega))).trans hS.2.2.2.2.2.2.2.2.2.2.2.2.2.2.1, (World.cell?_of_block (a := ⟨b3, o3 + k * 8 + 5, none⟩) (hst.2.block _ (World.block_lt_of_cell? _ _ hS.2.2.2.2.2.2.2.2.2.2.2.2.2.2.2.1) (fun e => by injection e with e; simp only at e; omega))).trans hS.2.2.2.2.2.2.2.2.2.2.2.2.2.2.2.1, (World.cell?_of_block (a := ⟨b3, o3 + k * 8 + 6, none⟩) (hst.2.block _ (World.block_lt_of_cell? _ _ hS.2.2.2.2.2.2.2.2.2.2.2.2.2.2.2.2.1) (fun e => by injection e with e; simp only at e; omega))).trans hS.2.2.2.2.2.2.2.2.2.2.2.2.2.2.2.2.1, (World.cell?_of_block (a := ⟨b3, o3 + k * 8 + 7, none⟩) (hst.2.block _ (World.block_lt_of_cell? _ _ hS.2.2.2.2.2.2.2.2.2.2.2.2.2.2.2.2.2) (fun e => by injection e with e; simp only at e; omega))).trans hS.2.2.2.2.2.2.2.2.2.2.2.2.2.2.2.2.2⟩
            clear hK K
            replace hf := hf.grown hst.2 hf.size (fun j hj => by injection hj with hj; omega)
            replace hsz := Nat.le_trans hsz hst.2.size
            replace hX := hst.1
            clear hst fz0 cz0 fz1 cz1 fz2 cz2 fz3 cz3 fz4 cz4 fz5 cz5 fz6 cz6 fz7 cz7
            generalize (((((((p2.setCell ⟨p0.heap.size, 0, none⟩ (.int .i64 r.par)).setCell ⟨p0.heap.size, 1, none⟩ (.slice r.ma r.ms.length r.mc)).setCell ⟨p0.heap.size, 2, none⟩ (.bool r.co)).setCell ⟨p0.heap.size, 3, none⟩ (.slice r.ba r.bys.length r.bc)).setCell ⟨p0.heap.size, 4, none⟩ (.string r.rc)).setCell ⟨p0.heap.size, 5, none⟩ (.int .i64 r.wt)).setCell ⟨p0.heap.size, 6, none⟩ (.int .i64 r.iv)).setCell ⟨p0.heap.size, 7, none⟩ (.int .i64 r.rp) = p3 at *
            refine wpAnyH_ready (rs := [13]) (by as_aux_lemma => kernel_rfl) (by simp) ?_
            refine AllReadyH.cons rfl (fun K hK => ?_) AllReadyH.nil
            · have fz := fun j => frozen_of (j := j) hY
              have fz0 := fz 0
              have cz0 : p3.cell? ⟨p1.heap.size, 0, none⟩ = some (.int .i64 0) := cell_heap hY
              have fz1 := fz 1
              have cz1 : p3.cell? ⟨p1.heap.size, 1, none⟩ = some (.slice none 0 0) := cell_heap hY
              have fz2 := fz 2
              have cz2 : p3.cell? ⟨p1.heap.size, 2, none⟩ = some (.bool false) := cell_heap hY
              have fz3 := fz 3
              have cz3 : p3.cell? ⟨p1.heap.size, 3, none⟩ = some (.slice none 0 0) := cell_heap hY
              have fz4 := fz 4
              have cz4 : p3.cell? ⟨p1.heap.size, 4, none⟩ = some (.string ⟨#[]⟩) := cell_heap hY
              have fz5 := fz 5
              have cz5 : p3.cell? ⟨p1.heap.size, 5, none⟩ = some (.int .i64 0) := cell_heap hY
              have fz6 := fz 6
              have cz6 : p3.cell? ⟨p1.heap.size, 6, none⟩ = some (.int .i64 0) := cell_heap hY
              have fz7 := fz 7
              have cz7 : p3.cell? ⟨p1.heap.size, 7, none⟩ = some (.int .i64 0) := cell_heap hY
              clear fz
              have hst := rt_store (X := p1.heap.size) s hY
              go_simp
              go_wp2_with fail
              replace hX := (hst.2.block _ (lt_of_block hX) (fun e => by injection e with e; omega)).trans hX
              refine hK.out _ _ ?_ (fun hS => ?_)
              · exact ⟨(World.cell?_of_block (a := ⟨w.heap.size, 0, none⟩) (hst.2.block _ (World.block_lt_of_cell? _ _ hS.1) (fun e => by injection e with e; simp only at e; omega))).trans hS.1, (World.cell?_of_block (a := ⟨w.heap.size + 1, 0, none⟩) (hst.2.block _ (World.block_lt_of_cell? _ _ hS.2.1) (fun e => by injection e with e; simp only at e; omega))).trans hS.2.1, (World.cell?_of_block (a := ⟨b1, o1 + k * 8, none⟩) (hst.2.block _ (World.block_lt_of_cell? _ _ hS.2.2.1) (fun e => by injection e with e; simp only at e; omega))).trans hS.2.2.1, (World.cell?_of_block (a := ⟨b1, o1 + k * 8 + 1, none⟩) (hst.2.block _ (World.block_lt_of_cell? _ _ hS.2.2.2.1) (fun e => by injection e with e; simp only at e; omega))).trans hS.2.2.2.1, (World.cell?_of_block (a := ⟨b1, o1 + k * 8 + 2, none⟩) (hst.2.block _ (World.block_lt_of_cell? _ _ hS.2.2.2.2.1) (fun e => by injection e with e; simp only at e; omega))).trans hS.2.2.2.2.1, (World.cell?_of_block (a := ⟨b1, o1 + k * 8 + 3, none⟩) (hst.2.block _ (World.block_lt_of_cell? _ _ hS.2.2.2.2.2.1) (fun e => by injection e with e; simp only at e; omega))).trans hS.2.2.2.2.2.1, (World.cell?_of_block (a := ⟨b1, o1 + k * 8 + 4, none⟩) (hst.2.block _ (World.block_lt_of_cell? _ _ hS.2.2.2.2.2.2.1) (fun e => by injection e with e; simp only at e; omega))).trans hS.2.2.2.2.2.2.1, (World.cell?_of_block (a := ⟨b1, o1 + k * 8 + 5, none⟩) (hst.2.block _ (World.block_lt_of_cell? _ _ hS.2.2.2.2.2.2.2.1) (fun e => by injection e with e; simp only at e; omega))).trans hS.2.2.2.2.2.2.2.1, (World.cell?_of_block (a := ⟨b1, o1 + k * 8 + 6, none⟩) (hst.2.block _ (World.block_lt_of_cell? _ _ hS.2.2.2.2.2.2.2.2.1) (fun e => by injection e with e; simp only at e; omega))).trans hS.2.2.2.2.2.2.2.2.1, (World.cell?_of_block (a := ⟨b1, o1 + k * 8 + 7, none⟩) (hst.2.block _ (World.block_lt_of_cell? _ _ hS.2.2.2.2.2.2.2.2.2.1) (fun e => by injection e with e; simp only at e; omega))).trans hS.2.2.2.2.2.2.2.2.2.1, (World.cell?_of_block (a := ⟨b3, o3 + k * 8, none⟩) (hst.2.block _ (World.block_lt_of_cell? _ _ hS.2.2.2.2.2.2.2.2.2.2.1) (fun e => by injection e with e; simp only at e; omega))).trans hS.2.2.2.2.2.2.2.2.2.2.1, (World.cell?_of_block (a := ⟨b3, o3 + k * 8 + 1, none⟩) (hst.2.block _ (World.block_lt_of_cell? _ _ hS.2.2.2.2.2.2.2.2.2.2.2.1) (fun e => by injection e with e; simp only at e; omega))).trans hS.2.2.2.2.2.2.2.2.2.2.2.1, (World.cell?_of_block (a := ⟨b3, o3 + k * 8 + 2, none⟩) (hst.2.block _ (World.block_lt_of_cell? _ _ hS.2.2.2.2.2.2.2.2.2.2.2.2.1) (fun e => by injection e with e; simp only at e; omega))).trans hS.2.2.2.2.2.2.2.2.2.2.2.2.1, (World.cell?_of_block (a := ⟨b3, o3 + k * 8 + 3, none⟩) (hst.2.block _ (World.block_lt_of_cell? _ _ hS.2.2.2.2.2.2.2.2.2.2.2.2.2.1) (fun e => by injection e with e; simp only at e; omega))).trans hS.2.2.2.2.2.2.2.2.2.2.2.2.2.1, (World.cell?_of_block (a := ⟨b3, o3 + k * 8 + 4, none⟩) (hst.2.block _ (World.block_lt_of_cell? _ _ hS.2.2.2.2.2.2.2.2.2.2.2.2.2.2.1) (fun e => by injection e with e; simp only at e; omega))).trans hS.2.2.2.2.2.2.2.2.2.2.2.2.2.2.1, (World.cell?_of_block (a := ⟨b3, o3 + k * 8 + 5, none⟩) (hst.2.block _ (World.block_lt_of_cell? _ _ hS.2.2.2.2.2.2.2.2.2.2.2.2.2.2.2.1) (fun e => by injection e with e; simp only at e; omega))).trans hS.2.2.2.2.2.2.2.2.2.2.2.2.2.2.2.1, (World.cell?_of_block (a := ⟨b3, o3 + k * 8 + 6, none⟩) (hst.2.block _ (World.block_lt_of_cell? _ _ hS.2.2.2.2.2.2.2.2.2.2.2.2.2.2.2.2.1) (fun e => by injection e with e; simp only at e; omega))).trans hS.2.2.2.2.2.2.2.2.2.2.2.2.2.2.2.2.1, (World.cell?_of_block (a := ⟨b3, o3 + k * 8 + 7, none⟩) (hst.2.block _ (World.block_lt_of_cell? _ _ hS.2.2.2.2.2.2.2.2.2.2.2.2.2.2.2.2.2) (fun e => by injection e with e; simp only at e; omega))).trans hS.2.2.2.2.2.2.2.2.2.2.2.2.2.2.2.2.2⟩
              clear hK K
              replace hf := hf.grown hst.2 hf.size (fun j hj => by injection hj with hj; omega)
              replace hsz := Nat.le_trans hsz hst.2.size
              replace hY := hst.1
              clear hst fz0 cz0 fz1 cz1 fz2 cz2 fz3 cz3 fz4 cz4 fz5 cz5 fz6 cz6 fz7 cz7
              generalize (((((((p3.setCell ⟨p1.heap.size, 0, none⟩ (.int .i64 s.par)).setCell ⟨p1.heap.size, 1, none⟩ (.slice s.ma s.ms.length s.mc)).setCell ⟨p1.heap.size, 2, none⟩ (.bool s.co)).setCell ⟨p1.heap.size, 3, none⟩ (.slice s.ba s.bys.length s.bc)).setCell ⟨p1.heap.size, 4, none⟩ (.string s.rc)).setCell ⟨p1.heap.size, 5, none⟩ (.int .i64 s.wt)).setCell ⟨p1.heap.size, 6, none⟩ (.int .i64 s.iv)).setCell ⟨p1.heap.size, 7, none⟩ (.int .i64 s.rp) = p4 at *
              refine wpAnyH_done (by kernel_rfl) ?_ _
              clear hS e0 e1 e2 e3 e4 e5 e6 e7 f0 f1 f2 f3 f4 f5 f6 f7 ca cb
              go_simp
              have y0 : p4.cell? ⟨p0.heap.size, 0, none⟩ = some (.int .i64 r.par) := cell_heap hX
              have z0 : p4.cell? ⟨p1.heap.size, 0, none⟩ = some (.int .i64 s.par) := cell_heap hY
              have y1 : p4.cell? ⟨p0.heap.size, 1, none⟩ = some (.slice r.ma r.ms.length r.mc) := cell_heap hX
              have z1 : p4.cell? ⟨p1.heap.size, 1, none⟩ = some (.slice s.ma s.ms.length s.mc) := cell_heap hY
              have y2 : p4.cell? ⟨p0.heap.size, 2, none⟩ = some (.bool r.co) := cell_heap hX
              have z2 : p4.cell? ⟨p1.heap.size, 2, none⟩ = some (.bool s.co) := cell_heap hY
              have y3 : p4.cell? ⟨p0.heap.size, 3, none⟩ = some (.slice r.ba r.bys.length r.bc) := cell_heap hX
              have z3 : p4.cell? ⟨p1.heap.size, 3, none⟩ = some (.slice s.ba s.bys.length s.bc) := cell_heap hY
              have y4 : p4.cell? ⟨p0.heap.size, 4, none⟩ = some (.string r.rc) := cell_heap hX
              have z4 : p4.cell? ⟨p1.heap.size, 4, none⟩ = some (.string s.rc) := cell_heap hY
              have y5 : p4.cell? ⟨p0.heap.size, 5, none⟩ = some (.int .i64 r.wt) := cell_heap hX
              have z5 : p4.cell? ⟨p1.heap.size, 5, none⟩ = some (.int .i64 s.wt) := cell_heap hY
              have y6 : p4.cell? ⟨p0.heap.size, 6, none⟩ = some (.int .i64 r.iv) := cell_heap hX
              have z6 : p4.cell? ⟨p1.heap.size, 6, none⟩ = some (.int .i64 s.iv) := cell_heap hY
              have y7 : p4.cell? ⟨p0.heap.size, 7, none⟩ = some (.int .i64 r.rp) := cell_heap hX
              have z7 : p4.cell? ⟨p1.heap.size, 7, none⟩ = some (.int .i64 s.rp) := cell_heap hY
              have E := Lib.hid (HB.out.trans (hf.mono HB.out.size))
              have KX : Hid (RtBlk p4 p0.heap.size (.slice r.ma r.ms.length r.mc) (.slice r.ba r.bys.length r.bc) r) := Lib.hid hX
              have KY : Hid (RtBlk p4 p1.heap.size (.slice s.ma s.ms.length s.mc) (.slice s.ba s.bys.length s.bc) s) := Lib.hid hY
              have K1p := Lib.hid (K1.out.below hf)
              have K2p := Lib.hid (K2.out.below hf)
              clear hX hY hf hsz
              by_cases h0 : r.par = s.par
              case neg =>
                have h0' : (r.par != s.par) = true := by simpa using h0
                have HT := Lib.hid (HNo.out (HN1.out fun h => h0 ((nrm_iff r s).1 h).1))
                clear HN1 HA2 HNo HYes HI
                go_wp2
                go_ret
                exact ⟨HT.out, E.out⟩
              case pos =>
              have h0' : (r.par != s.par) = false := by simpa using h0
              by_cases h2 : r.co = s.co
              case neg =>
                have h2' : (r.co != s.co) = true := by simpa using h2
                have HT := Lib.hid (HNo.out (HN1.out fun h => h2 ((nrm_iff r s).1 h).2.2.1))
                clear HN1 HA2 HNo HYes HI
                go_wp2
                go_ret
                exact ⟨HT.out, E.out⟩
              case pos =>
              have h2' : (r.co != s.co) = false := by simpa using h2
              have hrc := str_eq (a := r.rc) (b := s.rc)
              by_cases h4 : r.rc = s.rc
              case neg =>
                have h4' : (r.rc.toList == s.rc.toList) = false := Bool.eq_false_iff.2 fun h => h4 (hrc.1 h)
                have HT := Lib.hid (HNo.out (HN1.out fun h => h4 ((nrm_iff r s).1 h).2.2.2.2.1))
                clear HN1 HA2 HNo HYes HI hrc
                go_wp2
                go_ret
                exact ⟨HT.out, E.out⟩
              case pos =>
              have h4' : (r.rc.toList == s.rc.toList) = true := hrc.2 h4
              clear hrc
              by_cases h5 : r.wt = s.wt
              case neg =>
                have h5' : (r.wt != s.wt) = true := by simpa using h5
                have HT := Lib.hid (HNo.out (HN1.out fun h => h5 ((nrm_iff r s).1 h).2.2.2.2.2.1))
                clear HN1 HA2 HNo HYes HI
                go_wp2
                go_ret
                exact ⟨HT.out, E.out⟩
              case pos =>
              have h5' : (r.wt != s.wt) = false := by simpa using h5
              by_cases h6 : r.iv = s.iv
              case neg =>
                have h6' : (r.iv != s.iv) = true := by simpa using h6
                have HT := Lib.hid (HNo.out (HN1.out fun h => h6 ((nrm_iff r s).1 h).2.2.2.2.2.2.1))
                clear HN1 HA2 HNo HYes HI
                go_wp2
                go_ret
                exact ⟨HT.out, E.out⟩
              case pos =>
              have h6' : (r.iv != s.iv) = false := by simpa using h6
              by_cases h7 : r.rp = s.rp
              case neg =>
                have h7' : (r.rp != s.rp) = true := by simpa using h7
                have HT := Lib.hid (HNo.out (HN1.out fun h => h7 ((nrm_iff r s).1 h).2.2.2.2.2.2.2))
                clear HN1 HA2 HNo HYes HI
                go_wp2
                go_ret
                exact ⟨HT.out, E.out⟩
              case pos =>
              have h7' : (r.rp != s.rp) = false := by simpa using h7
              have HEq : Hid (r.ms = s.ms ∧ r.bys = s.bys ↔ nrm r = nrm s) := Lib.hid ⟨fun h => (nrm_iff r s).2 ⟨h0, h.1, h2, h.2, h4, h5, h6, h7⟩, fun h => ⟨((nrm_iff r s).1 h).2.1, ((nrm_iff r s).1 h).2.2.2.1⟩⟩
              clear h0 h4 h5 h6 h7
              have HCm := Lib.hid (uSameMts_any r.ma r.mc r.ms s.ma s.mc s.ms p4 (hx2.1.below E.out (Nat.le_refl _)) (hy2.1.below E.out (Nat.le_refl _)) hfr.1 hfs.1)
              have HCt := Lib.hid (fun u (hb : Below w.heap.size w u) => uSameTexts_any r.ba r.bc r.bys s.ba s.bc s.bys u (hx2.2.below hb (Nat.le_refl _)) (hy2.2.below hb (Nat.le_refl _)) hfr.2 hfs.2)
              generalize (r.ms = s.ms) = Q1 at *
              generalize (r.bys = s.bys) = Q2 at *
              generalize (nrm r = nrm s) = Q at *
              go_wp2_with (go_at_call 35; refine HCm.out.mono ?_; rintro e q1w ⟨⟨x1, rfl, hb1'⟩, qa⟩; have HB1 := Lib.hid hb1'; clear hb1'; refine Hid.out ?_)
              refine Lib.hid ?_
              have EE := Lib.hid (E.out.trans (qa.mono E.out.size))
              have KXa := Lib.hid (KX.out.below qa)
              have KYa := Lib.hid (KY.out.below qa)
              have K1a := Lib.hid (K1p.out.below qa)
              have K2a := Lib.hid (K2p.out.below qa)
              clear qa HCm E KX KY K1p K2p h0' h2' h4' h5' h6' h7' y0 z0 y1 z1 y2 z2 y3 z3 y4 z4 y5 z5 y6 z6 y7 z7
              cases x1 with
              | false =>
                have HT := Lib.hid (HNo.out (HN1.out fun h => by have := HB1.out.2 (HEq.out.2 h).1; cases this))
                clear HN1 HA2 HNo HYes HI HB1 HEq
                go_wp2
                go_ret
                exact ⟨HT.out, EE.out⟩
              | true =>
              have HQ1 := Lib.hid (HB1.out.1 rfl)
              have y3 : q1w.cell? ⟨p0.heap.size, 3, none⟩ = some (.slice r.ba r.bys.length r.bc) := cell_heap KXa.out
              have z3 : q1w.cell? ⟨p1.heap.size, 3, none⟩ = some (.slice s.ba s.bys.length s.bc) := cell_heap KYa.out
              have HCt' := Lib.hid (HCt.out _ EE.out)
              clear HB1 HCt
              go_wp2_with (go_at_call 36; refine HCt'.out.mono ?_; rintro e q2w ⟨⟨x2, rfl, hb2'⟩, qb⟩; have HB2 := Lib.hid hb2'; clear hb2'; refine Hid.out ?_)
              refine Lib.hid ?_
              have EF := Lib.hid (EE.out.trans (qb.mono EE.out.size))
              have K1b := Lib.hid (K1a.out.below qb)
              have K2b := Lib.hid (K2a.out.below qb)
              clear qb HCt' EE KXa KYa K1a K2a y3 z3
              cases x2 with
              | false =>
                have HT := Lib.hid (HNo.out (HN1.out fun h => by have := HB2.out.2 (HEq.out.2 h).2; cases this))
                clear HN1 HA2 HNo HYes HI HB2 HEq
                go_wp2
                go_ret
                exact ⟨HT.out, EF.out⟩
              | true =>
              have HA3 := Lib.hid (HA2.out (HEq.out.1 ⟨HQ1.out, HB2.out.1 rfl⟩))
              clear HA2 HN1 HEq HB2 HQ1
              go_wp2
              go_roundg (n - (k + 1))
              case measure => omega
              case rel => exact ⟨k + 1, by omega, by omega, by go_num, EF, K1b, K2b, HA3⟩
      · go_simp
        go_wp2_with fail
        have q := (Below.refl p0.heap.size p0).alloc (Nat.le_refl _) (.cells #[.int .i64 0, .slice none 0 0, .bool false, .slice none 0 0, .string ⟨#[]⟩, .int .i64 0, .int .i64 0, .int .i64 0] 33)
        have hY : (p0.alloc (.cells #[.int .i64 0, .slice none 0 0, .bool false, .slice none 0 0, .string ⟨#[]⟩, .int .i64 0, .int .i64 0, .int .i64 0] 33)).heap[p0.heap.size]? = some (.cells #[.int .i64 0, .slice none 0 0, .bool false, .slice none 0 0, .string ⟨#[]⟩, .int .i64 0, .int .i64 0, .int .i64 0] 33 (0, 0)) := heap_new p0 _
        have hghY : wr.heap.size ≤ p0.heap.size := hsz
        refine hK.out _ _ ?_ (fun hS => ?_)
        · exact ⟨(q.cell (p := ⟨w.heap.size, 0, none⟩) (World.block_lt_of_cell? _ _ hS.1)).trans hS.1, (q.cell (p := ⟨w.heap.size + 1, 0, none⟩) (World.block_lt_of_cell? _ _ hS.2.1)).trans hS.2.1, (q.cell (p := ⟨b1, o1 + k * 8, none⟩) (World.block_lt_of_cell? _ _ hS.2.2.1)).trans hS.2.2.1, (q.cell (p := ⟨b1, o1 + k * 8 + 1, none⟩) (World.block_lt_of_cell? _ _ hS.2.2.2.1)).trans hS.2.2.2.1, (q.cell (p := ⟨b1, o1 + k * 8 + 2, none⟩) (World.block_lt_of_cell? _ _ hS.2.2.2.2.1)).trans hS.2.2.2.2.1, (q.cell (p := ⟨b1, o1 + k * 8 + 3, none⟩) (World.block_lt_of_cell? _ _ hS.2.2.2.2.2.1)).trans hS.2.2.2.2.2.1, (q.cell (p := ⟨b1, o1 + k * 8 + 4, none⟩) (World.block_lt_of_cell? _ _ hS.2.2.2.2.2.2.1)).trans hS.2.2.2.2.2.2.1, (q.cell (p := ⟨b1, o1 + k * 8 + 5, none⟩) (World.block_lt_of_cell? _ _ hS.2.2.2.2.2.2.2.1)).trans hS.2.2.2.2.2.2.2.1, (q.cell (p := ⟨b1, o1 + k * 8 + 6, none⟩) (World.block_lt_of_cell? _ _ hS.2.2.2.2.2.2.2.2.1)).trans hS.2.2.2.2.2.2.2.2.1, (q.cell (p := ⟨b1, o1 + k * 8 + 7, none⟩) (World.block_lt_of_cell? _ _ hS.2.2.2.2.2.2.2.2.2.1)).trans hS.2.2.2.2.2.2.2.2.2.1, (q.cell (p := ⟨b3, o3 + k * 8, none⟩) (World.block_lt_of_cell? _ _ hS.2.2.2.2.2.2.2.2.2.2.1)).trans hS.2.2.2.2.2.2.2.2.2.2.1, (q.cell (p := ⟨b3, o3 + k * 8 + 1, none⟩) (World.block_lt_of_cell? _ _ hS.2.2.2.2.2.2.2.2.2.2.2.1)).trans hS.2.2.2.2.2.2.2.2.2.2.2.1, (q.cell (p := ⟨b3, o3 + k * 8 + 2, none⟩) (World.block_lt_of_cell? _ _ hS.2.2.2.2.2.2.2.2.2.2.2.2.1)).trans hS.2.2.2.2.2.2.2.2.2.2.2.2.1, (q.cell (p := ⟨b3, o3 + k * 8 + 3, none⟩) (World.block_lt_of_cell? _ _ hS.2.2.2.2.2.2.2.2.2.2.2.2.2.1)).trans hS.2.2.2.2.2.2.2.2.2.2.2.2.2.1, (q.cell (p := ⟨b3, o3 + k * 8 + 4, none⟩) (World.block_lt_of_cell? _ _ hS.2.2.2.2.2.2.2.2.2.2.2.2.2.2.1)).trans hS.2.2.2.2.2.2.2.2.2.2.2.2.2.2.1, (q.cell (p := ⟨b3, o3 + k * 8 + 5, none⟩) (World.block_lt_of_cell? _ _ hS.2.2.2.2.2.2.2.2.2.2.2.2.2.2.2.1)).trans hS.2.2.2.2.2.2.2.2.2.2.2.2.2.2.2.1, (q.cell (p := ⟨b3, o3 + k * 8 + 6, none⟩) (World.block_lt_of_cell? _ _ hS.2.2.2.2.2.2.2.2.2.2.2.2.2.2.2.2.1)).trans hS.2.2.2.2.2.2.2.2.2.2.2.2.2.2.2.2.1, (q.cell (p := ⟨b3, o3 + k * 8 + 7, none⟩) (World.block_lt_of_cell? _ _ hS.2.2.2.2.2.2.2.2.2.2.2.2.2.2.2.2.2)).trans hS.2.2.2.2.2.2.2.2.2.2.2.2.2.2.2.2.2⟩
        clear hK K
        replace hf := hf.trans (q.mono hf.size)
        replace hsz := Nat.le_trans hsz q.size
        clear q
        generalize p0.alloc (.cells #[.int .i64 0, .slice none 0 0, .bool false, .slice none 0 0, .string ⟨#[]⟩, .int .i64 0, .int .i64 0, .int .i64 0] 33) = p1 at *
        refine wpAnyH_ready (rs := [10]) (by as_aux_lemma => kernel_rfl) (by simp) ?_
        refine AllReadyH.cons rfl (fun K hK => ?_) AllReadyH.nil
        · go_simp
          go_wp2_with fail
          have hxy := Nat.ne_of_lt (lt_of_block hY)
          have q := (Below.refl p1.heap.size p1).alloc (Nat.le_refl _) (.cells #[.int .i64 0, .slice none 0 0, .bool false, .slice none 0 0, .string ⟨#[]⟩, .int .i64 0, .int .i64 0, .int .i64 0] 33)
          replace hY := (q.block _ (lt_of_block hY)).trans hY
          have hX : (p1.alloc (.cells #[.int .i64 0, .slice none 0 0, .bool false, .slice none 0 0, .string ⟨#[]⟩, .int .i64 0, .int .i64 0, .int .i64 0] 33)).heap[p1.heap.size]? = some (.cells #[.int .i64 0, .slice none 0 0, .bool false, .slice none 0 0, .string ⟨#[]⟩, .int .i64 0, .int .i64 0, .int .i64 0] 33 (0, 0)) := heap_new p1 _
          have hghX : wr.heap.size ≤ p1.heap.size := hsz
          refine hK.out _ _ ?_ (fun hS => ?_)
          · exact ⟨(q.cell (p := ⟨w.heap.size, 0, none⟩) (World.block_lt_of_cell? _ _ hS.1)).trans hS.1, (q.cell (p := ⟨w.heap.size + 1, 0, none⟩) (World.block_lt_of_cell? _ _ hS.2.1)).trans hS.2.1, (q.cell (p := ⟨b1, o1 + k * 8, none⟩) (World.block_lt_of_cell? _ _ hS.2.2.1)).trans hS.2.2.1, (q.cell (p := ⟨b1, o1 + k * 8 + 1, none⟩) (World.block_lt_of_cell? _ _ hS.2.2.2.1)).trans hS.2.2.2.1, (q.cell (p := ⟨b1, o1 + k * 8 + 2, none⟩) (World.block_lt_of_cell? _ _ hS.2.2.2.2.1)).trans hS.2.2.2.2.1, (q.cell (p := ⟨b1, o1 + k * 8 + 3, none⟩) (World.block_lt_of_cell? _ _ hS.2.2.2.2.2.1)).trans hS.2.2.2.2.2.1, (q.cell (p := ⟨b1, o1 + k * 8 + 4, none⟩) (World.block_lt_of_cell? _ _ hS.2.2.2.2.2.2.1)).trans hS.2.2.2.2.2.2.1, (q.cell (p := ⟨b1, o1 + k * 8 + 5, none⟩) (World.block_lt_of_cell? _ _ hS.2.2.2.2.2.2.2.1)).trans hS.2.2.2.2.2.2.2.1, (q.cell (p := ⟨b1, o1 + k * 8 + 6, none⟩) (World.block_lt_of_cell? _ _ hS.2.2.2.2.2.2.2.2.1)).trans hS.2.2.2.2.2.2.2.2.1, (q.cell (p := ⟨b1, o1 + k * 8 + 7, none⟩) (World.block_lt_of_cell? _ _ hS.2.2.2.2.2.2.2.2.2.1)).trans hS.2.2.2.2.2.2.2.2.2.1, (q.cell (p := ⟨b3, o3 + k * 8, none⟩) (World.block_lt_of_cell? _ _ hS.2.2.2.2.2.2.2.2.2.2.1)).trans hS.2.2.2.2.2.2.2.2.2.2.1, (q.cell (p := ⟨b3, o3 + k * 8 + 1, none⟩) (World.block_lt_of_cell? _ _ hS.2.2.2.2.2.2.2.2.2.2.2.1)).trans hS.2.2.2.2.2.2.2.2.2.2.2.1, (q.cell (p := ⟨b3, o3 + k * 8 + 2, none⟩) (World.block_lt_of_cell? _ _ hS.2.2.2.2.2.2.2.2.2.2.2.2.1)).trans hS.2.2.2.2.2.2.2.2.2.2.2.2.1, (q.cell (p := ⟨b3, o3 + k * 8 + 3, none⟩) (World.block_lt_of_cell? _ _ hS.2.2.2.2.2.2.2.2.2.2.2.2.2.1)).trans hS.2.2.2.2.2.2.2.2.2.2.2.2.2.1, (q.cell (p := ⟨b3, o3 + k * 8 + 4, none⟩) (World.block_lt_of_cell? _ _ hS.2.2.2.2.2.2.2.2.2.2.2.2.2.2.1)).trans hS.2.2.2.2.2.2.2.2.2.2.2.2.2.2.1, (q.cell (p := ⟨b3, o3 + k * 8 + 5, none⟩) (World.block_lt_of_cell? _ _ hS.2.2.2.2.2.2.2.2.2.2.2.2.2.2.2.1)).trans hS.2.2.2.2.2.2.2.2.2.2.2.2.2.2.2.1, (q.cell (p := ⟨b3, o3 + k * 8 + 6, none⟩) (World.block_lt_of_cell? _ _ hS.2.2.2.2.2.2.2.2.2.2.2.2.2.2.2.2.1)).trans hS.2.2.2.2.2.2.2.2.2.2.2.2.2.2.2.2.1, (q.cell (p := ⟨b3, o3 + k * 8 + 7, none⟩) (World.block_lt_of_cell? _ _ hS.2.2.2.2.2.2.2.2.2.2.2.2.2.2.2.2.2)).trans hS.2.2.2.2.2.2.2.2.2.2.2.2.2.2.2.2.2⟩
          clear hK K
          replace hf := hf.trans (q.mono hf.size)
          replace hsz := Nat.le_trans hsz q.size
          clear q
          generalize p1.alloc (.cells #[.int .i64 0, .slice none 0 0, .bool false, .slice none 0 0, .string ⟨#[]⟩, .int .i64 0, .int .i64 0, .int .i64 0] 33) = p2 at *
          refine wpAnyH_ready (rs := [12]) (by as_aux_lemma => kernel_rfl) (by simp) ?_
          refine AllReadyH.cons rfl (fun K hK => ?_) AllReadyH.nil
          · have fz := fun j => frozen_of (j := j) hX
            have fz0 := fz 0
            have cz0 : p2.cell? ⟨p1.heap.size, 0, none⟩ = some (.int .i64 0) := cell_heap hX
            have fz1 := fz 1
            have cz1 : p2.cell? ⟨p1.heap.size, 1, none⟩ = some (.slice none 0 0) := cell_heap hX
            have fz2 := fz 2
            have cz2 : p2.cell? ⟨p1.heap.size, 2, none⟩ = some (.bool false) := cell_heap hX
            have fz3 := fz 3
            have cz3 : p2.cell? ⟨p1.heap.size, 3, none⟩ = some (.slice none 0 0) := cell_heap hX
            have fz4 := fz 4
            have cz4 : p2.cell? ⟨p1.heap.size, 4, none⟩ = some (.string ⟨#[]⟩) := cell_heap hX
            have fz5 := fz 5
            have cz5 : p2.cell? ⟨p1.heap.size, 5, none⟩ = some (.int .i64 0) := cell_heap hX
            have fz6 := fz 6
            have cz6 : p2.cell? ⟨p1.heap.size, 6, none⟩ = some (.int .i64 0) := cell_heap hX
            have fz7 := fz 7
            have cz7 : p2.cell? ⟨p1.heap.size, 7, none⟩ = some (.int .i64 0) := cell_heap hX
            clear fz
            have hst := rt_store (X := p1.heap.size) r hX
            go_simp
            go_wp2_with fail
            replace hY := (hst.2.block _ (lt_of_block hY) (fun e => by injection e with e; omega)).trans hY
            refine hK.out _ _ ?_ (fun hS => ?_)
            · exact ⟨(World.cell?_of_block (a := ⟨w.heap.size, 0, none⟩) (hst.2.block _ (World.block_lt_of_cell? _ _ hS.1) (fun e => by injection e with e; simp only at e; omega))).trans hS.1, (World.cell?_of_block (a := ⟨w.heap.size + 1, 0, none⟩) (hst.2.block _ (World.block_lt_of_cell? _ _ hS.2.1) (fun e => by injection e with e; simp only at e; omega))).trans hS.2.1, (World.cell?_of_block (a := ⟨b1, o1 + k * 8, none⟩) (hst.2.block _ (World.block_lt_of_cell? _ _ hS.2.2.1) (fun e => by injection e with e; simp only at e; omega))).trans hS.2.2.1, (World.cell?_of_block (a := ⟨b1, o1 + k * 8 + 1, none⟩) (hst.2.block _ (World.block_lt_of_cell? _ _ hS.2.2.2.1) (fun e => by injection e with e; simp only at e; omega))).trans hS.2.2.2.1, (World.cell?_of_block (a := ⟨b1, o1 + k * 8 + 2, none⟩) (hst.2.block _ (World.block_lt_of_cell? _ _ hS.2.2.2.2.1) (fun e => by injection e with e; simp only at e; omega))).trans hS.2.2.2.2.1, (World.cell?_of_block (a := ⟨b1, o1 + k * 8 + 3, none⟩) (hst.2.block _ (World.block_lt_of_cell? _ _ hS.2.2.2.2.2.1) (fun e => by injection e with e; simp only at e; omega))).trans hS.2.2.2.2.2.1, (World.cell?_of_block (a := ⟨b1, o1 + k * 8 + 4, none⟩) (hst.2.block _ (World.block_lt_of_cell? _ _ hS.2.2.2.2.2.2.1) (fun e => by injection e with e; simp only at e; omega))).trans hS.2.2.2.2.2.2.1, (World.cell?_of_block (a := ⟨b1, o1 + k * 8 + 5, none⟩) (hst.2.block _ (World.block_lt_of_cell? _ _ hS.2.2.2.2.2.2.2.1) (fun e => by injection e with e; simp only at e; omega))).trans hS.2.2.2.2.2.2.2.1, (World.cell?_of_block (a := ⟨b1, o1 + k * 8 + 6, none⟩) (hst.2.block _ (World.block_lt_of_cell? _ _ hS.2.2.2.2.2.2.2.2.1) (fun e => by injection e with e; simp only at e; omega))).trans hS.2.2.2.2.2.2.2.2.1, (World.cell?_of_block (a := ⟨b1, o1 + k * 8 + 7, none⟩) (hst.2.block _ (World.block_lt_of_cell? _ _ hS.2.2.2.2.2.2.2.2.2.1) (fun e => by injection e with e; simp only at e; omega))).trans hS.2.2.2.2.2.2.2.2.2.1, (World.cell?_of_block (a := ⟨b3, o3 + k * 8, none⟩) (hst.2.block _ (World.block_lt_of_cell? _ _ hS.2.2.2.2.2.2.2.2.2.2.1) (fun e => by injection e with e; simp only at e; omega))).trans hS.2.2.2.2.2.2.2.2.2.2.1, (World.cell?_of_block (a := ⟨b3, o3 + k * 8 + 1, none⟩) (hst.2.block _ (World.block_lt_of_cell? _ _ hS.2.2.2.2.2.2.2.2.2.2.2.1) (fun e => by injection e with e; simp only at e; omega))).trans hS.2.2.2.2.2.2.2.2.2.2.2.1, (World.cell?_of_block (a := ⟨b3, o3 + k * 8 + 2, none⟩) (hst.2.block _ (World.block_lt_of_cell? _ _ hS.2.2.2.2.2.2.2.2.2.2.2.2.1) (fun e => by injection e with e; simp only at e; omega))).trans hS.2.2.2.2.2.2.2.2.2.2.2.2.1, (World.cell?_of_block (a := ⟨b3, o3 + k * 8 + 3, none⟩) (hst.2.block _ (World.block_lt_of_cell? _ _ hS.2.2.2.2.2.2.2.2.2.2.2.2.2.1) (fun e => by injection e with e; simp only at e; omega))).trans hS.2.2.2.2.2.2.2.2.2.2.2.2.2.1, (World.cell?_of_block (a := ⟨b3, o3 + k * 8 + 4, none⟩) (hst.2.block _ (World.block_lt_of_cell? _ _ hS.2.2.2.2.2.2.2.2.2.2.2.2.2.2.1) (fun e => by injection e with e; simp only at e; omega))).trans hS.2.2.2.2.2.2.2.2.2.2.2.2.2.2.1, (World.cell?_of_block (a := ⟨b3, o3 + k * 8 + 5, none⟩) (hst.2.block _ (World.block_lt_of_cell? _ _ hS.2.2.2.2.2.2.2.2.2.2.2.2.2.2.2.1) (fun e => by injection e with e; simp only at e; omega))).trans hS.2.2.2.2.2.2.2.2.2.2.2.2.2.2.2.1, (World.cell?_of_block (a := ⟨b3, o3 + k * 8 + 6, none⟩) (hst.2.block _ (World.block_lt_of_cell? _ _ hS.2.2.2.2.2.2.2.2.2.2.2.2.2.2.2.2.1) (fun e => by injection e with e; simp only at e; omega))).trans hS.2.2.2.2.2.2.2.2.2.2.2.2.2.2.2.2.1, (World.cell?_of_block (a := ⟨b3, o3 + k * 8 + 7, none⟩) (hst.2.block _ (World.block_lt_of_cell? _ _ hS.2.2.2.2.2.2.2.2.2.2.2.2.2.2.2.2.2) (fun e => by injection e with e; simp only at e; omega))).trans hS.2.2.2.2.2.2.2.2.2.2.2.2.2.2.2.2.2⟩
            clear hK K
            replace hf := hf.grown hst.2 hf.size (fun j hj => by injection hj with hj; omega)
            replace hsz := Nat.le_trans hsz hst.2.size
            replace hX := hst.1
            clear hst fz0 cz0 fz1 cz1 fz2 cz2 fz3 cz3 fz4 cz4 fz5 cz5 fz6 cz6 fz7 cz7
            generalize (((((((p2.setCell ⟨p1.heap.size, 0, none⟩ (.int .i64 r.par)).setCell ⟨p1.heap.size, 1, none⟩ (.slice r.ma r.ms.length r.mc)).setCell ⟨p1.heap.size, 2, none⟩ (.bool r.co)).setCell ⟨p1.heap.size, 3, none⟩ (.slice r.ba r.bys.length r.bc)).setCell ⟨p1.heap.size, 4, none⟩ (.string r.rc)).setCell ⟨p1.heap.size, 5, none⟩ (.int .i64 r.wt)).setCell ⟨p1.heap.size, 6, none⟩ (.int .i64 r.iv)).setCell ⟨p1.heap.size, 7, none⟩ (.int .i64 r.rp) = p3 at *
            refine wpAnyH_ready (rs := [13]) (by as_aux_lemma => kernel_rfl) (by simp) ?_
            refine AllReadyH.cons rfl (fun K hK => ?_) AllReadyH.nil
            · have fz := fun j => frozen_of (j := j) hY
              have fz0 := fz 0
              have cz0 : p3.cell? ⟨p0.heap.size, 0, none⟩ = some (.int .i64 0) := cell_heap hY
              have fz1 := fz 1
              have cz1 : p3.cell? ⟨p0.heap.size, 1, none⟩ = some (.slice none 0 0) := cell_heap hY
              have fz2 := fz 2
              have cz2 : p3.cell? ⟨p0.heap.size, 2, none⟩ = some (.bool false) := cell_heap hY
              have fz3 := fz 3
              have cz3 : p3.cell? ⟨p0.heap.size, 3, none⟩ = some (.slice none 0 0) := cell_heap hY
              have fz4 := fz 4
              have cz4 : p3.cell? ⟨p0.heap.size, 4, none⟩ = some (.string ⟨#[]⟩) := cell_heap hY
              have fz5 := fz 5
              have cz5 : p3.cell? ⟨p0.heap.size, 5, none⟩ = some (.int .i64 0) := cell_heap hY
              have fz6 := fz 6
              have cz6 : p3.cell? ⟨p0.heap.size, 6, none⟩ = some (.int .i64 0) := cell_heap hY
              have fz7 := fz 7
              have cz7 : p3.cell? ⟨p0.heap.size, 7, none⟩ = some (.int .i64 0) := cell_heap hY
              clear fz
              have hst := rt_store (X := p0.heap.size) s hY
              go_simp
              go_wp2_with fail
              replace hX := (hst.2.block _ (lt_of_block hX) (fun e => by injection e with e; omega)).trans hX
              refine hK.out _ _ ?_ (fun hS => ?_)
              · exact ⟨(World.cell?_of_block (a := ⟨w.heap.size, 0, none⟩) (hst.2.block _ (World.block_lt_of_cell? _ _ hS.1) (fun e => by injection e with e; simp only at e; omega))).trans hS.1, (World.cell?_of_block (a := ⟨w.heap.size + 1, 0, none⟩) (hst.2.block _ (World.block_lt_of_cell? _ _ hS.2.1) (fun e => by injection e with e; simp only at e; omega))).trans hS.2.1, (World.cell?_of_block (a := ⟨b1, o1 + k * 8, none⟩) (hst.2.block _ (World.block_lt_of_cell? _ _ hS.2.2.1) (fun e => by injection e with e; simp only at e; omega))).trans hS.2.2.1, (World.cell?_of_block (a := ⟨b1, o1 + k * 8 + 1, none⟩) (hst.2.block _ (World.block_lt_of_cell? _ _ hS.2.2.2.1) (fun e => by injection e with e; simp only at e; omega))).trans hS.2.2.2.1, (World.cell?_of_block (a := ⟨b1, o1 + k * 8 + 2, none⟩) (hst.2.block _ (World.block_lt_of_cell? _ _ hS.2.2.2.2.1) (fun e => by injection e with e; simp only at e; omega))).trans hS.2.2.2.2.1, (World.cell?_of_block (a := ⟨b1, o1 + k * 8 + 3, none⟩) (hst.2.block _ (World.block_lt_of_cell? _ _ hS.2.2.2.2.2.1) (fun e => by injection e with e; simp only at e; omega))).trans hS.2.2.2.2.2.1, (World.cell?_of_block (a := ⟨b1, o1 + k * 8 + 4, none⟩) (hst.2.block _ (World.block_lt_of_cell? _ _ hS.2.2.2.2.2.2.1) (fun e => by injection e with e; simp only at e; omega))).trans hS.2.2.2.2.2.2.1, (World.cell?_of_block (a := ⟨b1, o1 + k * 8 + 5, none⟩) (hst.2.block _ (World.block_lt_of_cell? _ _ hS.2.2.2.2.2.2.2.1) (fun e => by injection e with e; simp only at e; omega))).trans hS.2.2.2.2.2.2.2.1, (World.cell?_of_block (a := ⟨b1, o1 + k * 8 + 6, none⟩) (hst.2.block _ (World.block_lt_of_cell? _ _ hS.2.2.2.2.2.2.2.2.1) (fun e => by injection e with e; simp only at e; omega))).trans hS.2.2.2.2.2.2.2.2.1, (World.cell?_of_block (a := ⟨b1, o1 + k * 8 + 7, none⟩) (hst.2.block _ (World.block_lt_of_cell? _ _ hS.2.2.2.2.2.2.2.2.2.1) (fun e => by injection e with e; simp only at e; omega))).trans hS.2.2.2.2.2.2.2.2.2.1, (World.cell?_of_block (a := ⟨b3, o3 + k * 8, none⟩) (hst.2.block _ (World.block_lt_of_cell? _ _ hS.2.2.2.2.2.2.2.2.2.2.1) (fun e => by injection e with e; simp only at e; omega))).trans hS.2.2.2.2.2.2.2.2.2.2.1, (World.cell?_of_block (a := ⟨b3, o3 + k * 8 + 1, none⟩) (hst.2.block _ (World.block_lt_of_cell? _ _ hS.2.2.2.2.2.2.2.2.2.2.2.1) (fun e => by injection e with e; simp only at e; omega))).trans hS.2.2.2.2.2.2.2.2.2.2.2.1, (World.cell?_of_block (a := ⟨b3, o3 + k * 8 + 2, none⟩) (hst.2.block _ (World.block_lt_of_cell? _ _ hS.2.2.2.2.2.2.2.2.2.2.2.2.1) (fun e => by injection e with e; simp only at e; omega))).trans hS.2.2.2.2.2.2.2.2.2.2.2.2.1, (World.cell?_of_block (a := ⟨b3, o3 + k * 8 + 3, none⟩) (hst.2.block _ (World.block_lt_of_cell? _ _ hS.2.2.2.2.2.2.2.2.2.2.2.2.2.1) (fun e => by injection e with e; simp only at e; omega))).trans hS.2.2.2.2.2.2.2.2.2.2.2.2.2.1, (World.cell?_of_block (a := ⟨b3, o3 + k * 8 + 4, none⟩) (hst.2.block _ (World.block_lt_of_cell? _ _ hS.2.2.2.2.2.2.2.2.2.2.2.2.2.2.1) (fun e => by injection e with e; simp only at e; omega))).trans hS.2.2.2.2.2.2.2.2.2.2.2.2.2.2.1, (World.cell?_of_block (a := ⟨b3, o3 + k * 8 + 5, none⟩) (hst.2.block _ (World.block_lt_of_cell? _ _ hS.2.2.2.2.2.2.2.2.2.2.2.2.2.2.2.1) (fun e => by injection e with e; simp only at e; omega))).trans hS.2.2.2.2.2.2.2.2.2.2.2.2.2.2.2.1, (World.cell?_of_block (a := ⟨b3, o3 + k * 8 + 6, none⟩) (hst.2.block _ (World.block_lt_of_cell? _ _ hS.2.2.2.2.2.2.2.2.2.2.2.2.2.2.2.2.1) (fun e => by injection e with e; simp only at e; omega))).trans hS.2.2.2.2.2.2.2.2.2.2.2.2.2.2.2.2.1, (World.cell?_of_block (a := ⟨b3, o3 + k * 8 + 7, none⟩) (hst.2.block _ (World.block_lt_of_cell? _ _ hS.2.2.2.2.2.2.2.2.2.2.2.2.2.2.2.2.2) (fun e => by injection e with e; simp only at e; omega))).trans hS.2.2.2.2.2.2.2.2.2.2.2.2.2.2.2.2.2⟩
              clear hK K
              replace hf := hf.grown hst.2 hf.size (fun j hj => by injection hj with hj; omega)
              replace hsz := Nat.le_trans hsz hst.2.size
              replace hY := hst.1
              clear hst fz0 cz0 fz1 cz1 fz2 cz2 fz3 cz3 fz4 cz4 fz5 cz5 fz6 cz6 fz7 cz7
              generalize (((((((p3.setCell ⟨p0.heap.size, 0, none⟩ (.int .i64 s.par)).setCell ⟨p0.heap.size, 1, none⟩ (.slice s.ma s.ms.length s.mc)).setCell ⟨p0.heap.size, 2, none⟩ (.bool s.co)).setCell ⟨p0.heap.size, 3, none⟩ (.slice s.ba s.bys.length s.bc)).setCell ⟨p0.heap.size, 4, none⟩ (.string s.rc)).setCell ⟨p0.heap.size, 5, none⟩ (.int .i64 s.wt)).setCell ⟨p0.heap.size, 6, none⟩ (.int .i64 s.iv)).setCell ⟨p0.heap.size, 7, none⟩ (.int .i64 s.rp) = p4 at *
              refine wpAnyH_done (by kernel_rfl) ?_ _
              clear hS e0 e1 e2 e3 e4 e5 e6 e7 f0 f1 f2 f3 f4 f5 f6 f7 ca cb
              go_simp
              have y0 : p4.cell? ⟨p1.heap.size, 0, none⟩ = some (.int .i64 r.par) := cell_heap hX
              have z0 : p4.cell? ⟨p0.heap.size, 0, none⟩ = some (.int .i64 s.par) := cell_heap hY
              have y1 : p4.cell? ⟨p1.heap.size, 1, none⟩ = some (.slice r.ma r.ms.length r.mc) := cell_heap hX
              have z1 : p4.cell? ⟨p0.heap.size, 1, none⟩ = some (.slice s.ma s.ms.length s.mc) := cell_heap hY
              have y2 : p4.cell? ⟨p1.heap.size, 2, none⟩ = some (.bool r.co) := cell_heap hX
              have z2 : p4.cell? ⟨p0.heap.size, 2, none⟩ = some (.bool s.co) := cell_heap hY
              have y3 : p4.cell? ⟨p1.heap.size, 3, none⟩ = some (.slice r.ba r.bys.length r.bc) := cell_heap hX
              have z3 : p4.cell? ⟨p0.heap.size, 3, none⟩ = some (.slice s.ba s.bys.length s.bc) := cell_heap hY
              have y4 : p4.cell? ⟨p1.heap.size, 4, none⟩ = some (.string r.rc) := cell_heap hX
              have z4 : p4.cell? ⟨p0.heap.size, 4, none⟩ = some (.string s.rc) := cell_heap hY
              have y5 : p4.cell? ⟨p1.heap.size, 5, none⟩ = some (.int .i64 r.wt) := cell_heap hX
              have z5 : p4.cell? ⟨p0.heap.size, 5, none⟩ = some (.int .i64 s.wt) := cell_heap hY
              have y6 : p4.cell? ⟨p1.heap.size, 6, none⟩ = some (.int .i64 r.iv) := cell_heap hX
              have z6 : p4.cell? ⟨p0.heap.size, 6, none⟩ = some (.int .i64 s.iv) := cell_heap hY
              have y7 : p4.cell? ⟨p1.heap.size, 7, none⟩ = some (.int .i64 r.rp) := cell_heap hX
              have z7 : p4.cell? ⟨p0.heap.size, 7, none⟩ = some (.int .i64 s.rp) := cell_heap hY
              have E := Lib.hid (HB.out.trans (hf.mono HB.out.size))
              have KX : Hid (RtBlk p4 p1.heap.size (.slice r.ma r.ms.length r.mc) (.slice r.ba r.bys.length r.bc) r) := Lib.hid hX
              have KY : Hid (RtBlk p4 p0.heap.size (.slice s.ma s.ms.length s.mc) (.slice s.ba s.bys.length s.bc) s) := Lib.hid hY
              have K1p := Lib.hid (K1.out.below hf)
              have K2p := Lib.hid (K2.out.below hf)
              clear hX hY hf hsz
              by_cases h0 : r.par = s.par
              case neg =>
                have h0' : (r.par != s.par) = true := by simpa using h0
                have HT := Lib.hid (HNo.out (HN1.out fun h => h0 ((nrm_iff r s).1 h).1))
                clear HN1 HA2 HNo HYes HI
                go_wp2
                go_ret
                exact ⟨HT.out, E.out⟩
              case pos =>
              have h0' : (r.par != s.par) = false := by simpa using h0
              by_cases h2 : r.co = s.co
              case neg =>
                have h2' : (r.co != s.co) = true := by simpa using h2
                have HT := Lib.hid (HNo.out (HN1.out fun h => h2 ((nrm_iff r s).1 h).2.2.1))
                clear HN1 HA2 HNo HYes HI
                go_wp2
                go_ret
                exact ⟨HT.out, E.out⟩
              case pos =>
              have h2' : (r.co != s.co) = false := by simpa using h2
              have hrc := str_eq (a := r.rc) (b := s.rc)
              by_cases h4 : r.rc = s.rc
              case neg =>
                have h4' : (r.rc.toList == s.rc.toList) = false := Bool.eq_false_iff.2 fun h => h4 (hrc.1 h)
                have HT := Lib.hid (HNo.out (HN1.out fun h => h4 ((nrm_iff r s).1 h).2.2.2.2.1))
                clear HN1 HA2 HNo HYes HI hrc
                go_wp2
                go_ret
                exact ⟨HT.out, E.out⟩
              case pos =>
              have h4' : (r.rc.toList == s.rc.toList) = true := hrc.2 h4
              clear hrc
              by_cases h5 : r.wt = s.wt
              case neg =>
                have h5' : (r.wt != s.wt) = true := by simpa using h5
                have HT := Lib.hid (HNo.out (HN1.out fun h => h5 ((nrm_iff r s).1 h).2.2.2.2.2.1))
                clear HN1 HA2 HNo HYes HI
                go_wp2
                go_ret
                exact ⟨HT.out, E.out⟩
              case pos =>
              have h5' : (r.wt != s.wt) = false := by simpa using h5
              by_cases h6 : r.iv = s.iv
              case neg =>
                have h6' : (r.iv != s.iv) = true := by simpa using h6
                have HT := Lib.hid (HNo.out (HN1.out fun h => h6 ((nrm_iff r s).1 h).2.2.2.2.2.2.1))
                clear HN1 HA2 HNo HYes HI
                go_wp2
                go_ret
                exact ⟨HT.out, E.out⟩
              case pos =>
              have h6' : (r.iv != s.iv) = false := by simpa using h6
              by_cases h7 : r.rp = s.rp
              case neg =>
                have h7' : (r.rp != s.rp) = true := by simpa using h7
                have HT := Lib.hid (HNo.out (HN1.out fun h => h7 ((nrm_iff r s).1 h).2.2.2.2.2.2.2))
                clear HN1 HA2 HNo HYes HI
                go_wp2
                go_ret
                exact ⟨HT.out, E.out⟩
              case pos =>
              have h7' : (r.rp != s.rp) = false := by simpa using h7
              have HEq : Hid (r.ms = s.ms ∧ r.bys = s.bys ↔ nrm r = nrm s) := Lib.hid ⟨fun h => (nrm_iff r s).2 ⟨h0, h.1, h2, h.2, h4, h5, h6, h7⟩, fun h => ⟨((nrm_iff r s).1 h).2.1, ((nrm_iff r s).1 h).2.2.2.1⟩⟩
              clear h0 h4 h5 h6 h7
              have HCm := Lib.hid (uSameMts_any r.ma r.mc r.ms s.ma s.mc s.ms p4 (hx2.1.below E.out (Nat.le_refl _)) (hy2.1.below E.out (Nat.le_refl _)) hfr.1 hfs.1)
              have HCt := Lib.hid (fun u (hb : Below w.heap.size w u) => uSameTexts_any r.ba r.bc r.bys s.ba s.bc s.bys u (hx2.2.below hb (Nat.le_refl _)) (hy2.2.below hb (Nat.le_refl _)) hfr.2 hfs.2)
              generalize (r.ms = s.ms) = Q1 at *
              generalize (r.bys = s.bys) = Q2 at *
              generalize (nrm r = nrm s) = Q at *
              go_wp2_with (go_at_call 35; refine HCm.out.mono ?_; rintro e q1w ⟨⟨x1, rfl, hb1'⟩, qa⟩; have HB1 := Lib.hid hb1'; clear hb1'; refine Hid.out ?_)
              refine Lib.hid ?_
              have EE := Lib.hid (E.out.trans (qa.mono E.out.size))
              have KXa := Lib.hid (KX.out.below qa)
              have KYa := Lib.hid (KY.out.below qa)
              have K1a := Lib.hid (K1p.out.below qa)
              have K2a := Lib.hid (K2p.out.below qa)
              clear qa HCm E KX KY K1p K2p h0' h2' h4' h5' h6' h7' y0 z0 y1 z1 y2 z2 y3 z3 y4 z4 y5 z5 y6 z6 y7 z7
              cases x1 with
              | false =>
                have HT := Lib.hid (HNo.out (HN1.out fun h => by have := HB1.out.2 (HEq.out.2 h).1; cases this))
                clear HN1 HA2 HNo HYes HI HB1 HEq
                go_wp2
                go_ret
                exact ⟨HT.out, EE.out⟩
              | true =>
              have HQ1 := Lib.hid (HB1.out.1 rfl)
              have y3 : q1w.cell? ⟨p1.heap.size, 3, none⟩ = some (.slice r.ba r.bys.length r.bc) := cell_heap KXa.out
              have z3 : q1w.cell? ⟨p0.heap.size, 3, none⟩ = some (.slice s.ba s.bys.length s.bc) := cell_heap KYa.out
              have HCt' := Lib.hid (HCt.out _ EE.out)
              clear HB1 HCt
              go_wp2_with (go_at_call 36; refine HCt'.out.mono ?_; rintro e q2w ⟨⟨x2, rfl, hb2'⟩, qb⟩; have HB2 := Lib.hid hb2'; clear hb2'; refine Hid.out ?_)
              refine Lib.hid ?_
              have EF := Lib.hid (EE.out.trans (qb.mono EE.out.size))
              have K1b := Lib.hid (K1a.out.below qb)
              have K2b := Lib.hid (K2a.out.below qb)
              clear qb HCt' EE KXa KYa K1a K2a y3 z3
              cases x2 with
              | false =>
                have HT := Lib.hid (HNo.out (HN1.out fun h => by have := HB2.out.2 (HEq.out.2 h).2; cases this))
                clear HN1 HA2 HNo HYes HI HB2 HEq
                go_wp2
                go_ret
                exact ⟨HT.out, EF.out⟩
              | true =>
              have HA3 := Lib.hid (HA2.out (HEq.out.1 ⟨HQ1.out, HB2.out.1 rfl⟩))
              clear HA2 HN1 HEq HB2 HQ1
              go_wp2
              go_roundg (n - (k + 1))
              case measure => omega
              case rel => exact ⟨k + 1, by omega, by omega, by go_num, EF, K1b, K2b, HA3⟩
    · obtain rfl : k = n := by omega
      have hkl : ¬ (k : Int) < (k : Int) := by omega
      have HR1 : Hid (l.map nrm = l2.map nrm) := Lib.hid (by
        refine List.ext_getElem (by simp; have := HLn.out; have := HNn.out; omega) fun i h1 h2 => ?_
        simp only [List.length_map] at h1 h2
        rw [List.getElem_map, List.getElem_map]
        exact HA.out i (by have := HLn.out; omega) h1 h2)
      clear HA
      go_wp2
      clear ca cb
      go_loopg [8, 9, 10] m (fun gg s8 _ _ wr => ∃ j : Nat, j ≤ m ∧ m - j ≤ gg ∧ s8 = .int .i64 j ∧ Hid (Below w.heap.size w wr) ∧ Hid (CfBlk wr w.heap.size a k c b m d pt rs) ∧ Hid (CfBlk wr (w.heap.size + 1) a2 k c2 b2 m d2 pt rs) ∧ Hid (∀ i (_ : i < j) (hj : i < ls.length) (hj2 : i < ls2.length), nrmL ls[i] = nrmL ls2[i]))
      case atStart => exact ⟨0, Nat.zero_le _, by omega, rfl, HB, K1, K2, Lib.hid fun j hj => absurd hj (Nat.not_lt_zero _)⟩
      case round =>
        clear HB K1 K2
        obtain ⟨j, hj, hgj, rfl, HB, K1, K2, HA⟩ := hrel
        have ca : wr.cell? ⟨w.heap.size, 1, none⟩ = some (.slice b m d) := cell_heap K1.out
        have cb : wr.cell? ⟨w.heap.size + 1, 1, none⟩ = some (.slice b2 m d2) := cell_heap K2.out
        by_cases hlt2 : j < m
        · have hjl : (j : Int) < (m : Int) := by omega
          have hk1 : j < ls.length := by have := HLm.out; omega
          have hk2 : j < ls2.length := by have := HMm.out; omega
          obtain ⟨b1, o1, rfl, hb1, hcx⟩ := H2.out (by omega)
          obtain ⟨b3, o3, rfl, hb3, hcy⟩ := H4.out (by omega)
          obtain ⟨hx1, hx2⟩ := hcx j hk1
          obtain ⟨hy1, hy2⟩ := hcy j hk2
          have HN1 : Hid (¬ (nrmL ls[j] = nrmL ls2[j]) → ¬ P) := Lib.hid fun h hp => h (by simpa [hk1, hk2] using congrArg (fun q : List Rl => q[j]?) (HI.out.1 hp).2.1)
          have HA2 : Hid (nrmL ls[j] = nrmL ls2[j] → ∀ i (_ : i < j + 1) (hj : i < ls.length) (hj2 : i < ls2.length), nrmL ls[i] = nrmL ls2[i]) := Lib.hid fun h0 i hi h1 h2 => by
            by_cases e : i = j
            · subst e; exact h0
            · exact HA.out i (by omega) h1 h2
          have hfr := F2.out _ (List.getElem_mem hk1)
          have hfs := F4.out _ (List.getElem_mem hk2)
          replace hx2 : RuAt w ls[j] := hx2
          replace hy2 : RuAt w ls2[j] := hy2
          clear hcx hcy HA
          generalize ls[j] = r at *
          generalize ls2[j] = s at *
          clear hk1 hk2
          have e0 : wr.cell? ⟨b1, o1 + j * 3, none⟩ = some (.slice r.sa r.src.length r.sc) := (HB.out.cell (p := ⟨b1, o1 + j * 3, none⟩) hb1).trans (hx1 0 _ rfl)
          have f0 : wr.cell? ⟨b3, o3 + j * 3, none⟩ = some (.slice s.sa s.src.length s.sc) := (HB.out.cell (p := ⟨b3, o3 + j * 3, none⟩) hb3).trans (hy1 0 _ rfl)
          have e1 : wr.cell? ⟨b1, o1 + j * 3 + 1, none⟩ = some (.slice r.ta r.tgt.length r.tc) := (HB.out.cell (p := ⟨b1, o1 + j * 3 + 1, none⟩) hb1).trans (hx1 1 _ rfl)
          have f1 : wr.cell? ⟨b3, o3 + j * 3 + 1, none⟩ = some (.slice s.ta s.tgt.length s.tc) := (HB.out.cell (p := ⟨b3, o3 + j * 3 + 1, none⟩) hb3).trans (hy1 1 _ rfl)
          have e2 : wr.cell? ⟨b1, o1 + j * 3 + 2, none⟩ = some (.slice r.ea r.eqs.length r.ec) := (HB.out.cell (p := ⟨b1, o1 + j * 3 + 2, none⟩) hb1).trans (hx1 2 _ rfl)
          have f2 : wr.cell? ⟨b3, o3 + j * 3 + 2, none⟩ = some (.slice s.ea s.eqs.length s.ec) := (HB.out.cell (p := ⟨b3, o3 + j * 3 + 2, none⟩) hb3).trans (hy1 2 _ rfl)
          go_wp2_with fail
          refine wp_region_any (by kernel_rfl) ?_
          change wpAny _ _ _ _ _ _ _ (World.drew _)
          have hS : (fun w' : World => w'.cell? ⟨w.heap.size, 1, none⟩ = some (.slice (some ⟨b1, o1, none⟩) m d) ∧ w'.cell? ⟨w.heap.size + 1, 1, none⟩ = some (.slice (some ⟨b3, o3, none⟩) m d2) ∧ w'.cell? ⟨b1, o1 + j * 3, none⟩ = some (.slice r.sa r.src.length r.sc) ∧ w'.cell? ⟨b1, o1 + j * 3 + 1, none⟩ = some (.slice r.ta r.tgt.length r.tc) ∧ w'.cell? ⟨b1, o1 + j * 3 + 2, none⟩ = some (.slice r.ea r.eqs.length r.ec) ∧ w'.cell? ⟨b3, o3 + j * 3, none⟩ = some (.slice s.sa s.src.length s.sc) ∧ w'.cell? ⟨b3, o3 + j * 3 + 1, none⟩ = some (.slice s.ta s.tgt.length s.tc) ∧ w'.cell? ⟨b3, o3 + j * 3 + 2, none⟩ = some (.slice s.ea s.eqs.length s.ec)) wr.drew := ⟨ca, cb, e0, e1, e2, f0, f1, f2⟩
          refine wpAny_of_held (S := fun w' => w'.cell? ⟨w.heap.size, 1, none⟩ = some (.slice (some ⟨b1, o1, none⟩) m d) ∧ w'.cell? ⟨w.heap.size + 1, 1, none⟩ = some (.slice (some ⟨b3, o3, none⟩) m d2) ∧ w'.cell? ⟨b1, o1 + j * 3, none⟩ = some (.slice r.sa r.src.length r.sc) ∧ w'.cell? ⟨b1, o1 + j * 3 + 1, none⟩ = some (.slice r.ta r.tgt.length r.tc) ∧ w'.cell? ⟨b1, o1 + j * 3 + 2, none⟩ = some (.slice r.ea r.eqs.length r.ec) ∧ w'.cell? ⟨b3, o3 + j * 3, none⟩ = some (.slice s.sa s.src.length s.sc) ∧ w'.cell? ⟨b3, o3 + j * 3 + 1, none⟩ = some (.slice s.ta s.tgt.length s.tc) ∧ w'.cell? ⟨b3, o3 + j * 3 + 2, none⟩ = some (.slice s.ea s.eqs.length s.ec)) _ _ _ _ ?_
          refine wpAnyH_take_at (i := 0) (some 121) (v := ?_) rfl rfl (by as_aux_lemma => kernel_rfl) (by as_aux_lemma => kernel_rfl) (by as_aux_lemma => kernel_rfl) (fun _ _ _ h => h) (Or.inl ⟨by kernel_rfl, ?_⟩) hS ?_
          rotate_left
          · intro w hSw; obtain ⟨g0, g1, g2, g3, g4, g5, g6, g7⟩ := hSw; go_simp
            first | done | with_reducible rfl
          refine wpAnyH_take_at (i := 1) (some 122) (v := ?_) rfl rfl (by as_aux_lemma => kernel_rfl) (by as_aux_lemma => kernel_rfl) (by as_aux_lemma => kernel_rfl) (fun _ _ _ h => h) (Or.inl ⟨by kernel_rfl, ?_⟩) hS ?_
          rotate_left
          · intro w hSw; obtain ⟨g0, g1, g2, g3, g4, g5, g6, g7⟩ := hSw; go_simp
            first | done | with_reducible rfl
          refine wpAnyH_take_at (i := 2) (some 123) (v := ?_) rfl rfl (by as_aux_lemma => kernel_rfl) (by as_aux_lemma => kernel_rfl) (by as_aux_lemma => kernel_rfl) (fun _ _ _ h => h) (Or.inl ⟨by kernel_rfl, ?_⟩) hS ?_
          rotate_left
          · intro w hSw; obtain ⟨g0, g1, g2, g3, g4, g5, g6, g7⟩ := hSw; go_simp
            first | done | with_reducible rfl
          refine wpAnyH_take_at (i := 3) (some 124) (v := ?_) rfl rfl (by as_aux_lemma => kernel_rfl) (by as_aux_lemma => kernel_rfl) (by as_aux_lemma => kernel_rfl) (fun _ _ _ h => h) (Or.inl ⟨by kernel_rfl, ?_⟩) hS ?_
          rotate_left
          · intro w hSw; obtain ⟨g0, g1, g2, g3, g4, g5, g6, g7⟩ := hSw; go_simp
            first | done | with_reducible rfl
          refine wpAnyH_take_at (i := 4) (some 125) (v := ?_) rfl rfl (by as_aux_lemma => kernel_rfl) (by as_aux_lemma => kernel_rfl) (by as_aux_lemma => kernel_rfl) (fun _ _ _ h => h) (Or.inl ⟨by kernel_rfl, ?_⟩) hS ?_
          rotate_left
          · intro w hSw; obtain ⟨g0, g1, g2, g3, g4, g5, g6, g7⟩ := hSw; go_simp
            first | done | with_reducible rfl
          refine wpAnyH_take_at (i := 5) (some 126) (v := ?_) rfl rfl (by as_aux_lemma => kernel_rfl) (by as_aux_lemma => kernel_rfl) (by as_aux_lemma => kernel_rfl) (fun _ _ _ h => h) (Or.inl ⟨by kernel_rfl, ?_⟩) hS ?_
          rotate_left
          · intro w hSw; obtain ⟨g0, g1, g2, g3, g4, g5, g6, g7⟩ := hSw; go_simp
            first | done | with_reducible rfl
          refine wpAnyH_take_at (i := 6) (some 127) (v := ?_) rfl rfl (by as_aux_lemma => kernel_rfl) (by as_aux_lemma => kernel_rfl) (by as_aux_lemma => kernel_rfl) (fun _ _ _ h => h) (Or.inl ⟨by kernel_rfl, ?_⟩) hS ?_
          rotate_left
          · intro w hSw; obtain ⟨g0, g1, g2, g3, g4, g5, g6, g7⟩ := hSw; go_simp
            first | done | with_reducible rfl
          refine wpAnyH_take_at (i := 7) (some 128) (v := ?_) rfl rfl (by as_aux_lemma => kernel_rfl) (by as_aux_lemma => kernel_rfl) (by as_aux_lemma => kernel_rfl) (fun _ _ _ h => h) (Or.inl ⟨by kernel_rfl, ?_⟩) hS ?_
          rotate_left
          · intro w hSw; obtain ⟨g0, g1, g2, g3, g4, g5, g6, g7⟩ := hSw; go_simp
            first | done | with_reducible rfl
          refine wpAnyH_take_at (i := 8) (some 129) (v := ?_) rfl rfl (by as_aux_lemma => kernel_rfl) (by as_aux_lemma => kernel_rfl) (by as_aux_lemma => kernel_rfl) (fun _ _ _ h => h) (Or.inl ⟨by kernel_rfl, ?_⟩) hS ?_
          rotate_left
          · intro w hSw; obtain ⟨g0, g1, g2, g3, g4, g5, g6, g7⟩ := hSw; go_simp
            first | done | with_reducible rfl
          refine wpAnyH_take_at (i := 9) (some 130) (v := ?_) rfl rfl (by as_aux_lemma => kernel_rfl) (by as_aux_lemma => kernel_rfl) (by as_aux_lemma => kernel_rfl) (fun _ _ _ h => h) (Or.inl ⟨by kernel_rfl, ?_⟩) hS ?_
          rotate_left
          · intro w hSw; obtain ⟨g0, g1, g2, g3, g4, g5, g6, g7⟩ := hSw; go_simp
            first | done | with_reducible rfl
          have hf : Below wr.heap.size wr wr.drew := (Below.refl _ _).drew
          have hsz : wr.heap.size ≤ wr.drew.heap.size := Nat.le_refl _
          have hCl : w.heap.size + 1 < wr.heap.size := lt_of_block K2.out
          generalize wr.drew = p0 at *
          refine wpAnyH_ready (rs := [10, 11]) (by as_aux_lemma => kernel_rfl) (by simp) ?_
          refine AllReadyH.cons rfl (fun K hK => ?_) (AllReadyH.cons rfl (fun K hK => ?_) AllReadyH.nil)
          · go_simp
            go_wp2_with fail
            have q := (Below.refl p0.heap.size p0).alloc (Nat.le_refl _) (.cells #[.slice none 0 0, .slice none 0 0, .slice none 0 0] 38)
            have hX : (p0.alloc (.cells #[.slice none 0 0, .slice none 0 0, .slice none 0 0] 38)).heap[p0.heap.size]? = some (.cells #[.slice none 0 0, .slice none 0 0, .slice none 0 0] 38 (0, 0)) := heap_new p0 _
            have hghX : wr.heap.size ≤ p0.heap.size := hsz
            refine hK.out _ _ ?_ (fun hS => ?_)
            · exact ⟨(q.cell (p := ⟨w.heap.size, 1, none⟩) (World.block_lt_of_cell? _ _ hS.1)).trans hS.1, (q.cell (p := ⟨w.heap.size + 1, 1, none⟩) (World.block_lt_of_cell? _ _ hS.2.1)).trans hS.2.1, (q.cell (p := ⟨b1, o1 + j * 3, none⟩) (World.block_lt_of_cell? _ _ hS.2.2.1)).trans hS.2.2.1, (q.cell (p := ⟨b1, o1 + j * 3 + 1, none⟩) (World.block_lt_of_cell? _ _ hS.2.2.2.1)).trans hS.2.2.2.1, (q.cell (p := ⟨b1, o1 + j * 3 + 2, none⟩) (World.block_lt_of_cell? _ _ hS.2.2.2.2.1)).trans hS.2.2.2.2.1, (q.cell (p := ⟨b3, o3 + j * 3, none⟩) (World.block_lt_of_cell? _ _ hS.2.2.2.2.2.1)).trans hS.2.2.2.2.2.1, (q.cell (p := ⟨b3, o3 + j * 3 + 1, none⟩) (World.block_lt_of_cell? _ _ hS.2.2.2.2.2.2.1)).trans hS.2.2.2.2.2.2.1, (q.cell (p := ⟨b3, o3 + j * 3 + 2, none⟩) (World.block_lt_of_cell? _ _ hS.2.2.2.2.2.2.2)).trans hS.2.2.2.2.2.2.2⟩
            clear hK K
            replace hf := hf.trans (q.mono hf.size)
            replace hsz := Nat.le_trans hsz q.size
            clear q
            generalize p0.alloc (.cells #[.slice none 0 0, .slice none 0 0, .slice none 0 0] 38) = p1 at *
            refine wpAnyH_ready (rs := [11]) (by as_aux_lemma => kernel_rfl) (by simp) ?_
            refine AllReadyH.cons rfl (fun K hK => ?_) AllReadyH.nil
            · go_simp
              go_wp2_with fail
              have hxy := Nat.ne_of_lt (lt_of_block hX)
              have q := (Below.refl p1.heap.size p1).alloc (Nat.le_refl _) (.cells #[.slice none 0 0, .slice none 0 0, .slice none 0 0] 38)
              replace hX := (q.block _ (lt_of_block hX)).trans hX
              have hY : (p1.alloc (.cells #[.slice none 0 0, .slice none 0 0, .slice none 0 0] 38)).heap[p1.heap.size]? = some (.cells #[.slice none 0 0, .slice none 0 0, .slice none 0 0] 38 (0, 0)) := heap_new p1 _
              have hghY : wr.heap.size ≤ p1.heap.size := hsz
              refine hK.out _ _ ?_ (fun hS => ?_)
              · exact ⟨(q.cell (p := ⟨w.heap.size, 1, none⟩) (World.block_lt_of_cell? _ _ hS.1)).trans hS.1, (q.cell (p := ⟨w.heap.size + 1, 1, none⟩) (World.block_lt_of_cell? _ _ hS.2.1)).trans hS.2.1, (q.cell (p := ⟨b1, o1 + j * 3, none⟩) (World.block_lt_of_cell? _ _ hS.2.2.1)).trans hS.2.2.1, (q.cell (p := ⟨b1, o1 + j * 3 + 1, none⟩) (World.block_lt_of_cell? _ _ hS.2.2.2.1)).trans hS.2.2.2.1, (q.cell (p := ⟨b1, o1 + j * 3 + 2, none⟩) (World.block_lt_of_cell? _ _ hS.2.2.2.2.1)).trans hS.2.2.2.2.1, (q.cell (p := ⟨b3, o3 + j * 3, none⟩) (World.block_lt_of_cell? _ _ hS.2.2.2.2.2.1)).trans hS.2.2.2.2.2.1, (q.cell (p := ⟨b3, o3 + j * 3 + 1, none⟩) (World.block_lt_of_cell? _ _ hS.2.2.2.2.2.2.1)).trans hS.2.2.2.2.2.2.1, (q.cell (p := ⟨b3, o3 + j * 3 + 2, none⟩) (World.block_lt_of_cell? _ _ hS.2.2.2.2.2.2.2)).trans hS.2.2.2.2.2.2.2⟩
              clear hK K
              replace hf := hf.trans (q.mono hf.size)
              replace hsz := Nat.le_trans hsz q.size
              clear q
              generalize p1.alloc (.cells #[.slice none 0 0, .slice none 0 0, .slice none 0 0] 38) = p2 at *
              refine wpAnyH_ready (rs := [12]) (by as_aux_lemma => kernel_rfl) (by simp) ?_
              refine AllReadyH.cons rfl (fun K hK => ?_) AllReadyH.nil
              · have fz := fun j => frozen_of (j := j) hX
                have fz0 := fz 0
                have cz0 : p2.cell? ⟨p0.heap.size, 0, none⟩ = some (.slice none 0 0) := cell_heap hX
                have fz1 := fz 1
                have cz1 : p2.cell? ⟨p0.heap.size, 1, none⟩ = some (.slice none 0 0) := cell_heap hX
                have fz2 := fz 2
                have cz2 : p2.cell? ⟨p0.heap.size, 2, none⟩ = some (.slice none 0 0) := cell_heap hX
                clear fz
                have hst := rl_store (X := p0.heap.size) r hX
                go_simp
                go_wp2_with fail
                replace hY := (hst.2.block _ (lt_of_block hY) (fun e => by injection e with e; omega)).trans hY
                refine hK.out _ _ ?_ (fun hS => ?_)
                · exact ⟨(World.cell?_of_block (a := ⟨w.heap.size, 1, none⟩) (hst.2.block _ (World.block_lt_of_cell? _ _ hS.1) (fun e => by injection e with e; simp only at e; omega))).trans hS.1, (World.cell?_of_block (a := ⟨w.heap.size + 1, 1, none⟩) (hst.2.block _ (World.block_lt_of_cell? _ _ hS.2.1) (fun e => by injection e with e; simp only at e; omega))).trans hS.2.1, (World.cell?_of_block (a := ⟨b1, o1 + j * 3, none⟩) (hst.2.block _ (World.block_lt_of_cell? _ _ hS.2.2.1) (fun e => by injection e with e; simp only at e; omega))).trans hS.2.2.1, (World.cell?_of_block (a := ⟨b1, o1 + j * 3 + 1, none⟩) (hst.2.block _ (World.block_lt_of_cell? _ _ hS.2.2.2.1) (fun e => by injection e with e; simp only at e; omega))).trans hS.2.2.2.1, (World.cell?_of_block (a := ⟨b1, o1 + j * 3 + 2, none⟩) (hst.2.block _ (World.block_lt_of_cell? _ _ hS.2.2.2.2.1) (fun e => by injection e with e; simp only at e; omega))).trans hS.2.2.2.2.1, (World.cell?_of_block (a := ⟨b3, o3 + j * 3, none⟩) (hst.2.block _ (World.block_lt_of_cell? _ _ hS.2.2.2.2.2.1) (fun e => by injection e with e; simp only at e; omega))).trans hS.2.2.2.2.2.1, (World.cell?_of_block (a := ⟨b3, o3 + j * 3 + 1, none⟩) (hst.2.block _ (World.block_lt_of_cell? _ _ hS.2.2.2.2.2.2.1) (fun e => by injection e with e; simp only at e; omega))).trans hS.2.2.2.2.2.2.1, (World.cell?_of_block (a := ⟨b3, o3 + j * 3 + 2, none⟩) (hst.2.block _ (World.block_lt_of_cell? _ _ hS.2.2.2.2.2.2.2) (fun e => by injection e with e; simp only at e; omega))).trans hS.2.2.2.2.2.2.2⟩
                clear hK K
                replace hf := hf.grown hst.2 hf.size (fun j hj => by injection hj with hj; omega)
                replace hsz := Nat.le_trans hsz hst.2.size
                replace hX := hst.1
                clear hst fz0 cz0 fz1 cz1 fz2 cz2
                generalize ((p2.setCell ⟨p0.heap.size, 0, none⟩ (.slice r.sa r.src.length r.sc)).setCell ⟨p0.heap.size, 1, none⟩ (.slice r.ta r.tgt.length r.tc)).setCell ⟨p0.heap.size, 2, none⟩ (.slice r.ea r.eqs.length r.ec) = p3 at *
                refine wpAnyH_ready (rs := [13]) (by as_aux_lemma => kernel_rfl) (by simp) ?_
                refine AllReadyH.cons rfl (fun K hK => ?_) AllReadyH.nil
                · have fz := fun j => frozen_of (j := j) hY
                  have fz0 := fz 0
                  have cz0 : p3.cell? ⟨p1.heap.size, 0, none⟩ = some (.slice none 0 0) := cell_heap hY
                  have fz1 := fz 1
                  have cz1 : p3.cell? ⟨p1.heap.size, 1, none⟩ = some (.slice none 0 0) := cell_heap hY
                  have fz2 := fz 2
                  have cz2 : p3.cell? ⟨p1.heap.size, 2, none⟩ = some (.slice none 0 0) := cell_heap hY
                  clear fz
                  have hst := rl_store (X := p1.heap.size) s hY
                  go_simp
                  go_wp2_with fail
                  replace hX := (hst.2.block _ (lt_of_block hX) (fun e => by injection e with e; omega)).trans hX
                  refine hK.out _ _ ?_ (fun hS => ?_)
                  · exact ⟨(World.cell?_of_block (a := ⟨w.heap.size, 1, none⟩) (hst.2.block _ (World.block_lt_of_cell? _ _ hS.1) (fun e => by injection e with e; simp only at e; omega))).trans hS.1, (World.cell?_of_block (a := ⟨w.heap.size + 1, 1, none⟩) (hst.2.block _ (World.block_lt_of_cell? _ _ hS.2.1) (fun e => by injection e with e; simp only at e; omega))).trans hS.2.1, (World.cell?_of_block (a := ⟨b1, o1 + j * 3, none⟩) (hst.2.block _ (World.block_lt_of_cell? _ _ hS.2.2.1) (fun e => by injection e with e; simp only at e; omega))).trans hS.2.2.1, (World.cell?_of_block (a := ⟨b1, o1 + j * 3 + 1, none⟩) (hst.2.block _ (World.block_lt_of_cell? _ _ hS.2.2.2.1) (fun e => by injection e with e; simp only at e; omega))).trans hS.2.2.2.1, (World.cell?_of_block (a := ⟨b1, o1 + j * 3 + 2, none⟩) (hst.2.block _ (World.block_lt_of_cell? _ _ hS.2.2.2.2.1) (fun e => by injection e with e; simp only at e; omega))).trans hS.2.2.2.2.1, (World.cell?_of_block (a := ⟨b3, o3 + j * 3, none⟩) (hst.2.block _ (World.block_lt_of_cell? _ _ hS.2.2.2.2.2.1) (fun e => by injection e with e; simp only at e; omega))).trans hS.2.2.2.2.2.1, (World.cell?_of_block (a := ⟨b3, o3 + j * 3 + 1, none⟩) (hst.2.block _ (World.block_lt_of_cell? _ _ hS.2.2.2.2.2.2.1) (fun e => by injection e with e; simp only at e; omega))).trans hS.2.2.2.2.2.2.1, (World.cell?_of_block (a := ⟨b3, o3 + j * 3 + 2, none⟩) (hst.2.block _ (World.block_lt_of_cell? _ _ hS.2.2.2.2.2.2.2) (fun e => by injection e with e; simp only at e; omega))).trans hS.2.2.2.2.2.2.2⟩
                  clear hK K
                  replace hf := hf.grown hst.2 hf.size (fun j hj => by injection hj with hj; omega)
                  replace hsz := Nat.le_trans hsz hst.2.size
                  replace hY := hst.1
                  clear hst fz0 cz0 fz1 cz1 fz2 cz2
                  generalize ((p3.setCell ⟨p1.heap.size, 0, none⟩ (.slice s.sa s.src.length s.sc)).setCell ⟨p1.heap.size, 1, none⟩ (.slice s.ta s.tgt.length s.tc)).setCell ⟨p1.heap.size, 2, none⟩ (.slice s.ea s.eqs.length s.ec) = p4 at *
                  refine wpAnyH_done (by kernel_rfl) ?_ _
                  clear hS e0 e1 e2 f0 f1 f2 ca cb
                  go_simp
                  have E := Lib.hid (HB.out.trans (hf.mono HB.out.size))
                  have KX : Hid (RuBlk p4 p0.heap.size r) := Lib.hid hX
                  have KY : Hid (RuBlk p4 p1.heap.size s) := Lib.hid hY
                  have K1p := Lib.hid (K1.out.below hf)
                  have K2p := Lib.hid (K2.out.below hf)
                  clear hX hY hf hsz
                  have HEq := Lib.hid (nrmL_iff r s)
                  have H1c := Lib.hid (fun u (hb : Below w.heap.size w u) => uSameMts_any r.sa r.sc r.src s.sa s.sc s.src u (hx2.1.below hb (Nat.le_refl _)) (hy2.1.below hb (Nat.le_refl _)) hfr.1 hfs.1)
                  have H2c := Lib.hid (fun u (hb : Below w.heap.size w u) => uSameMts_any r.ta r.tc r.tgt s.ta s.tc s.tgt u (hx2.2.1.below hb (Nat.le_refl _)) (hy2.2.1.below hb (Nat.le_refl _)) hfr.2.1 hfs.2.1)
                  have H3c := Lib.hid (fun u (hb : Below w.heap.size w u) => uSameTexts_any r.ea r.ec r.eqs s.ea s.ec s.eqs u (hx2.2.2.below hb (Nat.le_refl _)) (hy2.2.2.below hb (Nat.le_refl _)) hfr.2.2 hfs.2.2)
                  generalize (r.src = s.src) = Q1 at *
                  generalize (r.tgt = s.tgt) = Q2 at *
                  generalize (r.eqs = s.eqs) = Q3 at *
                  generalize (nrmL r = nrmL s) = Q at *
                  have y0 : p4.cell? ⟨p0.heap.size, 0, none⟩ = some (.slice r.sa r.src.length r.sc) := cell_heap KX.out
                  have z0 : p4.cell? ⟨p1.heap.size, 0, none⟩ = some (.slice s.sa s.src.length s.sc) := cell_heap KY.out
                  have Hc := Lib.hid (H1c.out _ E.out)
                  go_wp2_with (go_at_call 35; refine Hc.out.mono ?_; rintro e v0w ⟨⟨x0, rfl, hbq⟩, qa⟩; have HQ0 := Lib.hid hbq; clear hbq; refine Hid.out ?_)
                  refine Lib.hid ?_
                  replace E := Lib.hid (E.out.trans (qa.mono E.out.size))
                  replace KX := Lib.hid (KX.out.below qa)
                  replace KY := Lib.hid (KY.out.below qa)
                  replace K1p := Lib.hid (K1p.out.below qa)
                  replace K2p := Lib.hid (K2p.out.below qa)
                  clear qa Hc y0 z0
                  cases x0 with
                  | false =>
                    have HT := Lib.hid (HNo.out (HN1.out fun h => by have := HQ0.out.2 (HEq.out.1 h).1; cases this))
                    clear HN1 HA2 HNo HYes HI HEq
                    go_wp2
                    go_ret
                    exact ⟨HT.out, E.out⟩
                  | true =>
                  have y1 : v0w.cell? ⟨p0.heap.size, 1, none⟩ = some (.slice r.ta r.tgt.length r.tc) := cell_heap KX.out
                  have z1 : v0w.cell? ⟨p1.heap.size, 1, none⟩ = some (.slice s.ta s.tgt.length s.tc) := cell_heap KY.out
                  have Hc := Lib.hid (H2c.out _ E.out)
                  go_wp2_with (go_at_call 35; refine Hc.out.mono ?_; rintro e v1w ⟨⟨x1, rfl, hbq⟩, qa⟩; have HQ1 := Lib.hid hbq; clear hbq; refine Hid.out ?_)
                  refine Lib.hid ?_
                  replace E := Lib.hid (E.out.trans (qa.mono E.out.size))
                  replace KX := Lib.hid (KX.out.below qa)
                  replace KY := Lib.hid (KY.out.below qa)
                  replace K1p := Lib.hid (K1p.out.below qa)
                  replace K2p := Lib.hid (K2p.out.below qa)
                  clear qa Hc y1 z1
                  cases x1 with
                  | false =>
                    have HT := Lib.hid (HNo.out (HN1.out fun h => by have := HQ1.out.2 (HEq.out.1 h).2.1; cases this))
                    clear HN1 HA2 HNo HYes HI HEq
                    go_wp2
                    go_ret
                    exact ⟨HT.out, E.out⟩
                  | true =>
                  have y2 : v1w.cell? ⟨p0.heap.size, 2, none⟩ = some (.slice r.ea r.eqs.length r.ec) := cell_heap KX.out
                  have z2 : v1w.cell? ⟨p1.heap.size, 2, none⟩ = some (.slice s.ea s.eqs.length s.ec) := cell_heap KY.out
                  have Hc := Lib.hid (H3c.out _ E.out)
                  go_wp2_with (go_at_call 36; refine Hc.out.mono ?_; rintro e v2w ⟨⟨x2, rfl, hbq⟩, qa⟩; have HQ2 := Lib.hid hbq; clear hbq; refine Hid.out ?_)
                  refine Lib.hid ?_
                  replace E := Lib.hid (E.out.trans (qa.mono E.out.size))
                  replace KX := Lib.hid (KX.out.below qa)
                  replace KY := Lib.hid (KY.out.below qa)
                  replace K1p := Lib.hid (K1p.out.below qa)
                  replace K2p := Lib.hid (K2p.out.below qa)
                  clear qa Hc y2 z2
                  cases x2 with
                  | false =>
                    have HT := Lib.hid (HNo.out (HN1.out fun h => by have := HQ2.out.2 (HEq.out.1 h).2.2; cases this))
                    clear HN1 HA2 HNo HYes HI HEq
                    go_wp2
                    go_ret
                    exact ⟨HT.out, E.out⟩
                  | true =>
                  have HA3 := Lib.hid (HA2.out (HEq.out.2 ⟨HQ0.out.1 (by simp), HQ1.out.1 (by simp), HQ2.out.1 (by simp)⟩))
                  clear HA2 HN1 HEq HQ0 HQ1 HQ2 KX KY H1c H2c H3c
                  go_wp2
                  go_roundg (m - (j + 1))
                  case measure => omega
                  case rel => exact ⟨j + 1, by omega, by omega, by go_num, E, K1p, K2p, HA3⟩
          · go_simp
            go_wp2_with fail
            have q := (Below.refl p0.heap.size p0).alloc (Nat.le_refl _) (.cells #[.slice none 0 0, .slice none 0 0, .slice none 0 0] 38)
            have hY : (p0.alloc (.cells #[.slice none 0 0, .slice none 0 0, .slice none 0 0] 38)).heap[p0.heap.size]? = some (.cells #[.slice none 0 0, .slice none 0 0, .slice none 0 0] 38 (0, 0)) := heap_new p0 _
            have hghY : wr.heap.size ≤ p0.heap.size := hsz
            refine hK.out _ _ ?_ (fun hS => ?_)
            · exact ⟨(q.cell (p := ⟨w.heap.size, 1, none⟩) (World.block_lt_of_cell? _ _ hS.1)).trans hS.1, (q.cell (p := ⟨w.heap.size + 1, 1, none⟩) (World.block_lt_of_cell? _ _ hS.2.1)).trans hS.2.1, (q.cell (p := ⟨b1, o1 + j * 3, none⟩) (World.block_lt_of_cell? _ _ hS.2.2.1)).trans hS.2.2.1, (q.cell (p := ⟨b1, o1 + j * 3 + 1, none⟩) (World.block_lt_of_cell? _ _ hS.2.2.2.1)).trans hS.2.2.2.1, (q.cell (p := ⟨b1, o1 + j * 3 + 2, none⟩) (World.block_lt_of_cell? _ _ hS.2.2.2.2.1)).trans hS.2.2.2.2.1, (q.cell (p := ⟨b3, o3 + j * 3, none⟩) (World.block_lt_of_cell? _ _ hS.2.2.2.2.2.1)).trans hS.2.2.2.2.2.1, (q.cell (p := ⟨b3, o3 + j * 3 + 1, none⟩) (World.block_lt_of_cell? _ _ hS.2.2.2.2.2.2.1)).trans hS.2.2.2.2.2.2.1, (q.cell (p := ⟨b3, o3 + j * 3 + 2, none⟩) (World.block_lt_of_cell? _ _ hS.2.2.2.2.2.2.2)).trans hS.2.2.2.2.2.2.2⟩
            clear hK K
            replace hf := hf.trans (q.mono hf.size)
            replace hsz := Nat.le_trans hsz q.size
            clear q
            generalize p0.alloc (.cells #[.slice none 0 0, .slice none 0 0, .slice none 0 0] 38) = p1 at *
            refine wpAnyH_ready (rs := [10]) (by as_aux_lemma => kernel_rfl) (by simp) ?_
            refine AllReadyH.cons rfl (fun K hK => ?_) AllReadyH.nil
            · go_simp
              go_wp2_with fail
              have hxy := Nat.ne_of_lt (lt_of_block hY)
              have q := (Below.refl p1.heap.size p1).alloc (Nat.le_refl _) (.cells #[.slice none 0 0, .slice none 0 0, .slice none 0 0] 38)
              replace hY := (q.block _ (lt_of_block hY)).trans hY
              have hX : (p1.alloc (.cells #[.slice none 0 0, .slice none 0 0, .slice none 0 0] 38)).heap[p1.heap.size]? = some (.cells #[.slice none 0 0, .slice none 0 0, .slice none 0 0] 38 (0, 0)) := heap_new p1 _
              have hghX : wr.heap.size ≤ p1.heap.size := hsz
              refine hK.out _ _ ?_ (fun hS => ?_)
              · exact ⟨(q.cell (p := ⟨w.heap.size, 1, none⟩) (World.block_lt_of_cell? _ _ hS.1)).trans hS.1, (q.cell (p := ⟨w.heap.size + 1, 1, none⟩) (World.block_lt_of_cell? _ _ hS.2.1)).trans hS.2.1, (q.cell (p := ⟨b1, o1 + j * 3, none⟩) (World.block_lt_of_cell? _ _ hS.2.2.1)).trans hS.2.2.1, (q.cell (p := ⟨b1, o1 + j * 3 + 1, none⟩) (World.block_lt_of_cell? _ _ hS.2.2.2.1)).trans hS.2.2.2.1, (q.cell (p := ⟨b1, o1 + j * 3 + 2, none⟩) (World.block_lt_of_cell? _ _ hS.2.2.2.2.1)).trans hS.2.2.2.2.1, (q.cell (p := ⟨b3, o3 + j * 3, none⟩) (World.block_lt_of_cell? _ _ hS.2.2.2.2.2.1)).trans hS.2.2.2.2.2.1, (q.cell (p := ⟨b3, o3 + j * 3 + 1, none⟩) (World.block_lt_of_cell? _ _ hS.2.2.2.2.2.2.1)).trans hS.2.2.2.2.2.2.1, (q.cell (p := ⟨b3, o3 + j * 3 + 2, none⟩) (World.block_lt_of_cell? _ _ hS.2.2.2.2.2.2.2)).trans hS.2.2.2.2.2.2.2⟩
              clear hK K
              replace hf := hf.trans (q.mono hf.size)
              replace hsz := Nat.le_trans hsz q.size
              clear q
              generalize p1.alloc (.cells #[.slice none 0 0, .slice none 0 0, .slice none 0 0] 38) = p2 at *
              refine wpAnyH_ready (rs := [12]) (by as_aux_lemma => kernel_rfl) (by simp) ?_
              refine AllReadyH.cons rfl (fun K hK => ?_) AllReadyH.nil
              · have fz := fun j => frozen_of (j := j) hX
                have fz0 := fz 0
                have cz0 : p2.cell? ⟨p1.heap.size, 0, none⟩ = some (.slice none 0 0) := cell_heap hX
                have fz1 := fz 1
                have cz1 : p2.cell? ⟨p1.heap.size, 1, none⟩ = some (.slice none 0 0) := cell_heap hX
                have fz2 := fz 2
                have cz2 : p2.cell? ⟨p1.heap.size, 2, none⟩ = some (.slice none 0 0) := cell_heap hX
                clear fz
                have hst := rl_store (X := p1.heap.size) r hX
                go_simp
                go_wp2_with fail
                replace hY := (hst.2.block _ (lt_of_block hY) (fun e => by injection e with e; omega)).trans hY
                refine hK.out _ _ ?_ (fun hS => ?_)
                · exact ⟨(World.cell?_of_block (a := ⟨w.heap.size, 1, none⟩) (hst.2.block _ (World.block_lt_of_cell? _ _ hS.1) (fun e => by injection e with e; simp only at e; omega))).trans hS.1, (World.cell?_of_block (a := ⟨w.heap.size + 1, 1, none⟩) (hst.2.block _ (World.block_lt_of_cell? _ _ hS.2.1) (fun e => by injection e with e; simp only at e; omega))).trans hS.2.1, (World.cell?_of_block (a := ⟨b1, o1 + j * 3, none⟩) (hst.2.block _ (World.block_lt_of_cell? _ _ hS.2.2.1) (fun e => by injection e with e; simp only at e; omega))).trans hS.2.2.1, (World.cell?_of_block (a := ⟨b1, o1 + j * 3 + 1, none⟩) (hst.2.block _ (World.block_lt_of_cell? _ _ hS.2.2.2.1) (fun e => by injection e with e; simp only at e; omega))).trans hS.2.2.2.1, (World.cell?_of_block (a := ⟨b1, o1 + j * 3 + 2, none⟩) (hst.2.block _ (World.block_lt_of_cell? _ _ hS.2.2.2.2.1) (fun e => by injection e with e; simp only at e; omega))).trans hS.2.2.2.2.1, (World.cell?_of_block (a := ⟨b3, o3 + j * 3, none⟩) (hst.2.block _ (World.block_lt_of_cell? _ _ hS.2.2.2.2.2.1) (fun e => by injection e with e; simp only at e; omega))).trans hS.2.2.2.2.2.1, (World.cell?_of_block (a := ⟨b3, o3 + j * 3 + 1, none⟩) (hst.2.block _ (World.block_lt_of_cell? _ _ hS.2.2.2.2.2.2.1) (fun e => by injection e with e; simp only at e; omega))).trans hS.2.2.2.2.2.2.1, (World.cell?_of_block (a := ⟨b3, o3 + j * 3 + 2, none⟩) (hst.2.block _ (World.block_lt_of_cell? _ _ hS.2.2.2.2.2.2.2) (fun e => by injection e with e; simp only at e; omega))).trans hS.2.2.2.2.2.2.2⟩
                clear hK K
                replace hf := hf.grown hst.2 hf.size (fun j hj => by injection hj with hj; omega)
                replace hsz := Nat.le_trans hsz hst.2.size
                replace hX := hst.1
                clear hst fz0 cz0 fz1 cz1 fz2 cz2
                generalize ((p2.setCell ⟨p1.heap.size, 0, none⟩ (.slice r.sa r.src.length r.sc)).setCell ⟨p1.heap.size, 1, none⟩ (.slice r.ta r.tgt.length r.tc)).setCell ⟨p1.heap.size, 2, none⟩ (.slice r.ea r.eqs.length r.ec) = p3 at *
                refine wpAnyH_ready (rs := [13]) (by as_aux_lemma => kernel_rfl) (by simp) ?_
                refine AllReadyH.cons rfl (fun K hK => ?_) AllReadyH.nil
                · have fz := fun j => frozen_of (j := j) hY
                  have fz0 := fz 0
                  have cz0 : p3.cell? ⟨p0.heap.size, 0, none⟩ = some (.slice none 0 0) := cell_heap hY
                  have fz1 := fz 1
                  have cz1 : p3.cell? ⟨p0.heap.size, 1, none⟩ = some (.slice none 0 0) := cell_heap hY
                  have fz2 := fz 2
                  have cz2 : p3.cell? ⟨p0.heap.size, 2, none⟩ = some (.slice none 0 0) := cell_heap hY
                  clear fz
                  have hst := rl_store (X := p0.heap.size) s hY
                  go_simp
                  go_wp2_with fail
                  replace hX := (hst.2.block _ (lt_of_block hX) (fun e => by injection e with e; omega)).trans hX
                  refine hK.out _ _ ?_ (fun hS => ?_)
                  · exact ⟨(World.cell?_of_block (a := ⟨w.heap.size, 1, none⟩) (hst.2.block _ (World.block_lt_of_cell? _ _ hS.1) (fun e => by injection e with e; simp only at e; omega))).trans hS.1, (World.cell?_of_block (a := ⟨w.heap.size + 1, 1, none⟩) (hst.2.block _ (World.block_lt_of_cell? _ _ hS.2.1) (fun e => by injection e with e; simp only at e; omega))).trans hS.2.1, (World.cell?_of_block (a := ⟨b1, o1 + j * 3, none⟩) (hst.2.block _ (World.block_lt_of_cell? _ _ hS.2.2.1) (fun e => by injection e with e; simp only at e; omega))).trans hS.2.2.1, (World.cell?_of_block (a := ⟨b1, o1 + j * 3 + 1, none⟩) (hst.2.block _ (World.block_lt_of_cell? _ _ hS.2.2.2.1) (fun e => by injection e with e; simp only at e; omega))).trans hS.2.2.2.1, (World.cell?_of_block (a := ⟨b1, o1 + j * 3 + 2, none⟩) (hst.2.block _ (World.block_lt_of_cell? _ _ hS.2.2.2.2.1) (fun e => by injection e with e; simp only at e; omega))).trans hS.2.2.2.2.1, (World.cell?_of_block (a := ⟨b3, o3 + j * 3, none⟩) (hst.2.block _ (World.block_lt_of_cell? _ _ hS.2.2.2.2.2.1) (fun e => by injection e with e; simp only at e; omega))).trans hS.2.2.2.2.2.1, (World.cell?_of_block (a := ⟨b3, o3 + j * 3 + 1, none⟩) (hst.2.block _ (World.block_lt_of_cell? _ _ hS.2.2.2.2.2.2.1) (fun e => by injection e with e; simp only at e; omega))).trans hS.2.2.2.2.2.2.1, (World.cell?_of_block (a := ⟨b3, o3 + j * 3 + 2, none⟩) (hst.2.block _ (World.block_lt_of_cell? _ _ hS.2.2.2.2.2.2.2) (fun e => by injection e with e; simp only at e; omega))).trans hS.2.2.2.2.2.2.2⟩
                  clear hK K
                  replace hf := hf.grown hst.2 hf.size (fun j hj => by injection hj with hj; omega)
                  replace hsz := Nat.le_trans hsz hst.2.size
                  replace hY := hst.1
                  clear hst fz0 cz0 fz1 cz1 fz2 cz2
                  generalize ((p3.setCell ⟨p0.heap.size, 0, none⟩ (.slice s.sa s.src.length s.sc)).setCell ⟨p0.heap.size, 1, none⟩ (.slice s.ta s.tgt.length s.tc)).setCell ⟨p0.heap.size, 2, none⟩ (.slice s.ea s.eqs.length s.ec) = p4 at *
                  refine wpAnyH_done (by kernel_rfl) ?_ _
                  clear hS e0 e1 e2 f0 f1 f2 ca cb
                  go_simp
                  have E := Lib.hid (HB.out.trans (hf.mono HB.out.size))
                  have KX : Hid (RuBlk p4 p1.heap.size r) := Lib.hid hX
                  have KY : Hid (RuBlk p4 p0.heap.size s) := Lib.hid hY
                  have K1p := Lib.hid (K1.out.below hf)
                  have K2p := Lib.hid (K2.out.below hf)
                  clear hX hY hf hsz
                  have HEq := Lib.hid (nrmL_iff r s)
                  have H1c := Lib.hid (fun u (hb : Below w.heap.size w u) => uSameMts_any r.sa r.sc r.src s.sa s.sc s.src u (hx2.1.below hb (Nat.le_refl _)) (hy2.1.below hb (Nat.le_refl _)) hfr.1 hfs.1)
                  have H2c := Lib.hid (fun u (hb : Below w.heap.size w u) => uSameMts_any r.ta r.tc r.tgt s.ta s.tc s.tgt u (hx2.2.1.below hb (Nat.le_refl _)) (hy2.2.1.below hb (Nat.le_refl _)) hfr.2.1 hfs.2.1)
                  have H3c := Lib.hid (fun u (hb : Below w.heap.size w u) => uSameTexts_any r.ea r.ec r.eqs s.ea s.ec s.eqs u (hx2.2.2.below hb (Nat.le_refl _)) (hy2.2.2.below hb (Nat.le_refl _)) hfr.2.2 hfs.2.2)
                  generalize (r.src = s.src) = Q1 at *
                  generalize (r.tgt = s.tgt) = Q2 at *
                  generalize (r.eqs = s.eqs) = Q3 at *
                  generalize (nrmL r = nrmL s) = Q at *
                  have y0 : p4.cell? ⟨p1.heap.size, 0, none⟩ = some (.slice r.sa r.src.length r.sc) := cell_heap KX.out
                  have z0 : p4.cell? ⟨p0.heap.size, 0, none⟩ = some (.slice s.sa s.src.length s.sc) := cell_heap KY.out
                  have Hc := Lib.hid (H1c.out _ E.out)
                  go_wp2_with (go_at_call 35; refine Hc.out.mono ?_; rintro e v0w ⟨⟨x0, rfl, hbq⟩, qa⟩; have HQ0 := Lib.hid hbq; clear hbq; refine Hid.out ?_)
                  refine Lib.hid ?_
                  replace E := Lib.hid (E.out.trans (qa.mono E.out.size))
                  replace KX := Lib.hid (KX.out.below qa)
                  replace KY := Lib.hid (KY.out.below qa)
                  replace K1p := Lib.hid (K1p.out.below qa)
                  replace K2p := Lib.hid (K2p.out.below qa)
                  clear qa Hc y0 z0
                  cases x0 with
                  | false =>
                    have HT := Lib.hid (HNo.out (HN1.out fun h => by have := HQ0.out.2 (HEq.out.1 h).1; cases this))
                    clear HN1 HA2 HNo HYes HI HEq
                    go_wp2
                    go_ret
                    exact ⟨HT.out, E.out⟩
                  | true =>
                  have y1 : v0w.cell? ⟨p1.heap.size, 1, none⟩ = some (.slice r.ta r.tgt.length r.tc) := cell_heap KX.out
                  have z1 : v0w.cell? ⟨p0.heap.size, 1, none⟩ = some (.slice s.ta s.tgt.length s.tc) := cell_heap KY.out
                  have Hc := Lib.hid (H2c.out _ E.out)
                  go_wp2_with (go_at_call 35; refine Hc.out.mono ?_; rintro e v1w ⟨⟨x1, rfl, hbq⟩, qa⟩; have HQ1 := Lib.hid hbq; clear hbq; refine Hid.out ?_)
                  refine Lib.hid ?_
                  replace E := Lib.hid (E.out.trans (qa.mono E.out.size))
                  replace KX := Lib.hid (KX.out.below qa)
                  replace KY := Lib.hid (KY.out.below qa)
                  replace K1p := Lib.hid (K1p.out.below qa)
                  replace K2p := Lib.hid (K2p.out.below qa)
                  clear qa Hc y1 z1
                  cases x1 with
                  | false =>
                    have HT := Lib.hid (HNo.out (HN1.out fun h => by have := HQ1.out.2 (HEq.out.1 h).2.1; cases this))
                    clear HN1 HA2 HNo HYes HI HEq
                    go_wp2
                    go_ret
                    exact ⟨HT.out, E.out⟩
                  | true =>
                  have y2 : v1w.cell? ⟨p1.heap.size, 2, none⟩ = some (.slice r.ea r.eqs.length r.ec) := cell_heap KX.out
                  have z2 : v1w.cell? ⟨p0.heap.size, 2, none⟩ = some (.slice s.ea s.eqs.length s.ec) := cell_heap KY.out
                  have Hc := Lib.hid (H3c.out _ E.out)
                  go_wp2_with (go_at_call 36; refine Hc.out.mono ?_; rintro e v2w ⟨⟨x2, rfl, hbq⟩, qa⟩; have HQ2 := Lib.hid hbq; clear hbq; refine Hid.out ?_)
                  refine Lib.hid ?_
                  replace E := Lib.hid (E.out.trans (qa.mono E.out.size))
                  replace KX := Lib.hid (KX.out.below qa)
                  replace KY := Lib.hid (KY.out.below qa)
                  replace K1p := Lib.hid (K1p.out.below qa)
                  replace K2p := Lib.hid (K2p.out.below qa)
                  clear qa Hc y2 z2
                  cases x2 with
                  | false =>
                    have HT := Lib.hid (HNo.out (HN1.out fun h => by have := HQ2.out.2 (HEq.out.1 h).2.2; cases this))
                    clear HN1 HA2 HNo HYes HI HEq
                    go_wp2
                    go_ret
                    exact ⟨HT.out, E.out⟩
                  | true =>
                  have HA3 := Lib.hid (HA2.out (HEq.out.2 ⟨HQ0.out.1 (by simp), HQ1.out.1 (by simp), HQ2.out.1 (by simp)⟩))
                  clear HA2 HN1 HEq HQ0 HQ1 HQ2 KX KY H1c H2c H3c
                  go_wp2
                  go_roundg (m - (j + 1))
                  case measure => omega
                  case rel => exact ⟨j + 1, by omega, by omega, by go_num, E, K1p, K2p, HA3⟩
        · obtain rfl : j = m := by omega
          have HT := Lib.hid (HYes.out (HI.out.2 ⟨HR1.out, List.ext_getElem (by simp; have := HLm.out; have := HMm.out; omega) fun i h1 h2 => by
            simp only [List.length_map] at h1 h2
            rw [List.getElem_map, List.getElem_map]
            exact HA.out i (by have := HLm.out; omega) h1 h2, by simp, by simp⟩))
          clear HA HI HNo HYes
          go_wp2
          go_ret
          exact ⟨HT.out, HB.out⟩

end Go.Proofs.YthaimnmbcbhioaaDoor
