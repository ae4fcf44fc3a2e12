/-
  Whether two silences are one, as the program and the reference tell it; Mutes of the reference.
-/
import Derived.Test.YtcngifkoopcmeaaGreatDoorK45
namespace Go.Proofs.YtcngifkoopcmeaaGreatDoor
open Go Go.RowKit Go.Shelf

def eqMt (x y : Mt) : Bool := x.1.toList == y.1.toList && ((x.2.1 : Int) == (y.2.1 : Int)) && x.2.2.toList == y.2.2.toList
theorem eqMt_iff (x y : Mt) : eqMt x y = true ↔ x = y := by
  unfold eqMt
  rw [Bool.and_eq_true, Bool.and_eq_true, beq_iff_eq, beq_iff_eq, beq_iff_eq, ByteArray.toList_eq, ByteArray.toList_eq, ByteArray.toList_eq, ByteArray.toList_eq]
  constructor
  · rintro ⟨⟨h1, h2⟩, h3⟩
    exact Prod.ext (Go.WideShapes.bytes_inj h1) (Prod.ext (by omega) (Go.WideShapes.bytes_inj h3))
  · rintro rfl
    exact ⟨⟨rfl, rfl⟩, rfl⟩
theorem eqMt_run (x y : Mt) : ∀ w : World, (binOp .neq 131 (.agg #[.string x.1, .int .u8 (x.2.1 : Int), .string x.2.2]) (.agg #[.string y.1, .int .u8 (y.2.1 : Int), .string y.2.2])).run Tryz.prog w = .ok (.bool (!eqMt x y)) w := fun w => by
  have u9 := Tryz.underlying9
  have a9 := Tryz.isAgg9
  have z9 := Tryz.sizeOf9
  have u8 := Tryz.underlying129
  have a8 := Tryz.isAgg129
  have z8 := Tryz.sizeOf129
  have hS : Tryz.prog.underlying 131 = some (.struct (Tryz.prog.fieldsOf 131)) := by kernel_rfl
  have hp : Tryz.prog.stoodInHeld 131 = false := by kernel_rfl
  simp only [eqMt]
  rw [run_neq_struct, show (10000 : Nat) = 9999 + 1 from rfl, run_equalIn_agg w 9999 131 _ _ hS hp]
  simp only [Program.fieldsOf, Tryz.underlying131]
  go_simp
  by_cases h1 : x.1.toList = y.1.toList <;> by_cases h2 : (x.2.1 : Int) = (y.2.1 : Int) <;> by_cases h3 : x.2.2.toList = y.2.2.toList <;> simp [h1, h2, h3]

set_option maxRecDepth 20000 in
set_option maxHeartbeats 4000000 in
theorem eqMts_any (a : Option Addr) (c : Nat) (ms : List Mt) (b : Option Addr) (d : Nat) (ns : List Mt) (w : World) (h1 : MtsAt w a ms) (h2 : MtsAt w b ns) (hn : ms.length ≤ 1000) (hm : ns.length ≤ 1000) :
    Calls Tryz.prog 81 #[.slice a ms.length c, .slice b ns.length d] w fun e w' => Tells (ms = ns) e ∧ Below w.heap.size w w' := by
  have H1 := Lib.hid h1
  have H2 := Lib.hid h2
  clear h1 h2
  by_cases hl : ms.length = ns.length
  case neg =>
    have hl' : ((ms.length : Int) != (ns.length : Int)) = true := by simp; omega
    have HT : Hid (Tells (ms = ns) (.returned (.bool false))) := Lib.hid ⟨false, rfl, ⟨fun h => (by cases h), fun h => absurd (congrArg List.length h) hl⟩⟩
    go_enter Tryz.func81, Tryz.ntmps81
    go_wp2
    go_ret
    exact ⟨HT.out, Below.refl _ _⟩
  case pos =>
  have HL := Lib.hid hl
  have hl' : ((ms.length : Int) != (ns.length : Int)) = false := by simp; omega
  obtain ⟨n, hnn⟩ : ∃ n, n = ns.length := ⟨_, rfl⟩
  have HNn := Lib.hid hnn
  rw [← hnn] at hl' hl ⊢
  rw [hl] at hl' ⊢
  have HLn := Lib.hid hl
  have hnb : n ≤ 1000 := by omega
  clear hnn hl
  have HP : Hid (∀ P : Prop, P = (ms = ns) → True) := Lib.hid fun _ _ => trivial
  generalize hPP : (ms = ns) = P at *
  have HPP := Lib.hid hPP
  clear hPP HP
  go_enter Tryz.func81, Tryz.ntmps81
  go_wp2
  go_loopg [5, 13] n (fun gg _ s13 wr => ∃ k : Nat, k ≤ n ∧ n - k ≤ gg ∧ s13 = .int .i64 k ∧ Hid (Below w.heap.size w wr) ∧ Hid (∀ j (_ : j < k) (hj : j < ms.length) (hj2 : j < ns.length), ms[j] = ns[j]))
  case atStart => exact ⟨0, Nat.zero_le _, by omega, rfl, Lib.hid (Below.refl _ _), Lib.hid fun j hj => absurd hj (Nat.not_lt_zero _)⟩
  case round =>
    obtain ⟨k, hk, hg, rfl, HB, HA⟩ := hrel
    by_cases hlt : k < n
    · have hkl : (k : Int) < (n : Int) := by omega
      have hk1 : k < ms.length := by have := HLn.out; omega
      have hk2 : k < ns.length := by have := HNn.out; omega
      obtain ⟨b1, o1, rfl, hb1, hcx⟩ := H1.out (by omega)
      obtain ⟨b2, o2, rfl, hb2, hcy⟩ := H2.out (by omega)
      have hx := hcx k hk1
      have hy := hcy k hk2
      have e0 : wr.cell? ⟨b1, o1 + k * 3, none⟩ = some (.string ms[k].1) := (HB.out.cell (p := ⟨b1, o1 + k * 3, none⟩) hb1).trans (hx.1)
      have f0 : wr.cell? ⟨b2, o2 + k * 3, none⟩ = some (.string ns[k].1) := (HB.out.cell (p := ⟨b2, o2 + k * 3, none⟩) hb2).trans (hy.1)
      have e1 : wr.cell? ⟨b1, o1 + k * 3 + 1, none⟩ = some (.int .u8 (ms[k].2.1 : Int)) := (HB.out.cell (p := ⟨b1, o1 + k * 3 + 1, none⟩) hb1).trans (hx.2.1)
      have f1 : wr.cell? ⟨b2, o2 + k * 3 + 1, none⟩ = some (.int .u8 (ns[k].2.1 : Int)) := (HB.out.cell (p := ⟨b2, o2 + k * 3 + 1, none⟩) hb2).trans (hy.2.1)
      have e2 : wr.cell? ⟨b1, o1 + k * 3 + 2, none⟩ = some (.string ms[k].2.2) := (HB.out.cell (p := ⟨b1, o1 + k * 3 + 2, none⟩) hb1).trans (hx.2.2)
      have f2 : wr.cell? ⟨b2, o2 + k * 3 + 2, none⟩ = some (.string ns[k].2.2) := (HB.out.cell (p := ⟨b2, o2 + k * 3 + 2, none⟩) hb2).trans (hy.2.2)
      have HN1 : Hid (ms[k] ≠ ns[k] → ¬ P) := Lib.hid fun h hp => by
        rw [← HPP.out] at hp
        subst hp
        exact h rfl
      have HA2 : Hid (ms[k] = ns[k] → ∀ j (_ : j < k + 1) (hj : j < ms.length) (hj2 : j < ns.length), ms[j] = ns[j]) := Lib.hid fun h0 j hj h1 h2 => by
        by_cases e : j = k
        · subst e; exact h0
        · exact HA.out j (by omega) h1 h2
      have HEq := Lib.hid (eqMt_iff ms[k] ns[k])
      have hne := eqMt_run ms[k] ns[k]
      clear hcx hcy hx hy HA
      generalize ms[k] = x at *
      generalize ns[k] = y at *
      clear hk1 hk2
      go_wp2_with fail
      refine wp_region_any (by kernel_rfl) ?_
      change wpAny _ _ _ _ _ _ _ (World.drew _)
      have hS : (fun w' : World => w'.cell? ⟨b1, o1 + k * 3, none⟩ = some (.string x.1) ∧ w'.cell? ⟨b1, o1 + k * 3 + 1, none⟩ = some (.int .u8 (x.2.1 : Int)) ∧ w'.cell? ⟨b1, o1 + k * 3 + 2, none⟩ = some (.string x.2.2) ∧ w'.cell? ⟨b2, o2 + k * 3, none⟩ = some (.string y.1) ∧ w'.cell? ⟨b2, o2 + k * 3 + 1, none⟩ = some (.int .u8 (y.2.1 : Int)) ∧ w'.cell? ⟨b2, o2 + k * 3 + 2, none⟩ = some (.string y.2.2)) wr.drew := ⟨e0, e1, e2, f0, f1, f2⟩
      refine wpAny_of_held (S := fun w' => w'.cell? ⟨b1, o1 + k * 3, none⟩ = some (.string x.1) ∧ w'.cell? ⟨b1, o1 + k * 3 + 1, none⟩ = some (.int .u8 (x.2.1 : Int)) ∧ w'.cell? ⟨b1, o1 + k * 3 + 2, none⟩ = some (.string x.2.2) ∧ w'.cell? ⟨b2, o2 + k * 3, none⟩ = some (.string y.1) ∧ w'.cell? ⟨b2, o2 + k * 3 + 1, none⟩ = some (.int .u8 (y.2.1 : Int)) ∧ w'.cell? ⟨b2, o2 + k * 3 + 2, none⟩ = some (.string y.2.2)) _ _ _ _ ?_
      refine wpAnyH_takeE (i := 0) (some 16) (v := ?_) rfl rfl (by as_aux_lemma => kernel_rfl) (by as_aux_lemma => kernel_rfl) (by as_aux_lemma => kernel_rfl) (fun _ _ _ h => h) (Or.inl ⟨by kernel_rfl, ?_⟩) hS ?_
      rotate_left
      · intro w hSw; obtain ⟨g0, g1, g2, g3, g4, g5⟩ := hSw; go_simp
        first | done | with_reducible rfl
      refine wpAnyH_takeE (i := 1) (some 17) (v := ?_) rfl rfl (by as_aux_lemma => kernel_rfl) (by as_aux_lemma => kernel_rfl) (by as_aux_lemma => kernel_rfl) (fun _ _ _ h => h) (Or.inl ⟨by kernel_rfl, ?_⟩) hS ?_
      rotate_left
      · intro w hSw; obtain ⟨g0, g1, g2, g3, g4, g5⟩ := hSw; go_simp
        first | done | with_reducible rfl
      refine wpAnyH_takeE (i := 2) (some 18) (v := ?_) rfl rfl (by as_aux_lemma => kernel_rfl) (by as_aux_lemma => kernel_rfl) (by as_aux_lemma => kernel_rfl) (fun _ _ _ h => h) (Or.inl ⟨by kernel_rfl, ?_⟩) hS ?_
      rotate_left
      · intro w hSw; obtain ⟨g0, g1, g2, g3, g4, g5⟩ := hSw; go_simp
        first | done | with_reducible rfl
      refine wpAnyH_takeE (i := 3) (some 19) (v := ?_) rfl rfl (by as_aux_lemma => kernel_rfl) (by as_aux_lemma => kernel_rfl) (by as_aux_lemma => kernel_rfl) (fun _ _ _ h => h) (Or.inl ⟨by kernel_rfl, ?_⟩) hS ?_
      rotate_left
      · intro w hSw; obtain ⟨g0, g1, g2, g3, g4, g5⟩ := hSw; go_simp
        first | done | with_reducible rfl
      refine wpAnyH_takeE (i := 4) (some 20) (v := ?_) rfl rfl (by as_aux_lemma => kernel_rfl) (by as_aux_lemma => kernel_rfl) (by as_aux_lemma => kernel_rfl) (fun _ _ _ h => h) (Or.inl ⟨by kernel_rfl, ?_⟩) hS ?_
      rotate_left
      · intro w hSw; obtain ⟨g0, g1, g2, g3, g4, g5⟩ := hSw; go_simp
        first | done | with_reducible rfl
      refine wpAnyH_takeE (i := 5) (some 21) (v := ?_) rfl rfl (by as_aux_lemma => kernel_rfl) (by as_aux_lemma => kernel_rfl) (by as_aux_lemma => kernel_rfl) (fun _ _ _ h => h) (Or.inl ⟨by kernel_rfl, ?_⟩) hS ?_
      rotate_left
      · intro w hSw; obtain ⟨g0, g1, g2, g3, g4, g5⟩ := hSw; go_simp
        first | done | with_reducible rfl
      refine wpAnyH_takeE (i := 6) (some 22) (v := ?_) rfl rfl (by as_aux_lemma => kernel_rfl) (by as_aux_lemma => kernel_rfl) (by as_aux_lemma => kernel_rfl) (fun _ _ _ h => h) (Or.inl ⟨by kernel_rfl, ?_⟩) hS ?_
      rotate_left
      · intro w hSw; obtain ⟨g0, g1, g2, g3, g4, g5⟩ := hSw; go_simp
        first | done | with_reducible rfl
      refine wpAnyH_takeE (i := 7) (some 23) (v := ?_) rfl rfl (by as_aux_lemma => kernel_rfl) (by as_aux_lemma => kernel_rfl) (by as_aux_lemma => kernel_rfl) (fun _ _ _ h => h) (Or.inl ⟨by kernel_rfl, ?_⟩) hS ?_
      rotate_left
      · intro w hSw; obtain ⟨g0, g1, g2, g3, g4, g5⟩ := hSw; go_simp
        first | done | with_reducible rfl
      refine wpAnyH_takeE (i := 8) (some 24) (v := ?_) rfl rfl (by as_aux_lemma => kernel_rfl) (by as_aux_lemma => kernel_rfl) (by as_aux_lemma => kernel_rfl) (fun _ _ _ h => h) (Or.inl ⟨by kernel_rfl, ?_⟩) hS ?_
      rotate_left
      · intro w hSw; obtain ⟨g0, g1, g2, g3, g4, g5⟩ := hSw; go_simp
        first | done | with_reducible rfl
      refine wpAnyH_done (by kernel_rfl) ?_ _
      clear hS e0 f0 e1 f1 e2 f2 hne
      go_simp
      cases hv : eqMt x y with
      | true =>
        have HA3 := Lib.hid (HA2.out (HEq.out.1 hv))
        clear HA2 HN1 HEq
        go_wp2
        go_roundg (n - (k + 1))
        case measure => omega
        case rel => exact ⟨k + 1, by omega, by omega, by go_num, Lib.hid HB.out.drew, HA3⟩
      | false =>
        have HT : Hid (Tells P (.returned (.bool false))) := Lib.hid ⟨false, rfl, ⟨fun h => (by cases h), fun h => absurd h (HN1.out fun e => by rw [HEq.out.2 e] at hv; cases hv)⟩⟩
        clear HA2 HN1 HEq
        go_wp2
        go_ret
        exact ⟨HT.out, HB.out.drew⟩
    · obtain rfl : k = n := by omega
      have HT : Hid (Tells P (.returned (.bool true))) := Lib.hid ⟨true, rfl, ⟨fun _ => by
        rw [← HPP.out]
        exact List.ext_getElem HL.out fun i h1 h2 => HA.out i (by have := HLn.out; omega) h1 h2, fun _ => rfl⟩⟩
      clear HA
      go_wp2
      go_ret
      exact ⟨HT.out, HB.out⟩

set_option maxRecDepth 20000 in
set_option maxHeartbeats 4000000 in
theorem uSameMts_any (a : Option Addr) (c : Nat) (ms : List Mt) (b : Option Addr) (d : Nat) (ns : List Mt) (w : World) (h1 : MtsAt w a ms) (h2 : MtsAt w b ns) (hn : ms.length ≤ 1000) (hm : ns.length ≤ 1000) :
    Calls Tryz.prog 80 #[.slice a ms.length c, .slice b ns.length d] w fun e w' => Tells (ms = ns) e ∧ Below w.heap.size w w' := by
  have H1 := Lib.hid h1
  have H2 := Lib.hid h2
  clear h1 h2
  by_cases hl : ms.length = ns.length
  case neg =>
    have hl' : ((ms.length : Int) != (ns.length : Int)) = true := by simp; omega
    have HT : Hid (Tells (ms = ns) (.returned (.bool false))) := Lib.hid ⟨false, rfl, ⟨fun h => (by cases h), fun h => absurd (congrArg List.length h) hl⟩⟩
    go_enter Tryz.func80, Tryz.ntmps80
    go_wp2
    go_ret
    exact ⟨HT.out, Below.refl _ _⟩
  case pos =>
  have HL := Lib.hid hl
  have hl' : ((ms.length : Int) != (ns.length : Int)) = false := by simp; omega
  obtain ⟨n, hnn⟩ : ∃ n, n = ns.length := ⟨_, rfl⟩
  have HNn := Lib.hid hnn
  rw [← hnn] at hl' hl ⊢
  rw [hl] at hl' ⊢
  have HLn := Lib.hid hl
  have hnb : n ≤ 1000 := by omega
  clear hnn hl
  have HP : Hid (∀ P : Prop, P = (ms = ns) → True) := Lib.hid fun _ _ => trivial
  generalize hPP : (ms = ns) = P at *
  have HPP := Lib.hid hPP
  clear hPP HP
  go_enter Tryz.func80, Tryz.ntmps80
  go_wp2
  go_loopg [5] n (fun gg s5 wr => ∃ k : Nat, k ≤ n ∧ n - k ≤ gg ∧ s5 = .int .i64 k ∧ Hid (Below w.heap.size w wr) ∧ Hid (∀ j (_ : j < k) (hj : j < ms.length) (hj2 : j < ns.length), ms[j] = ns[j]))
  case atStart => exact ⟨0, Nat.zero_le _, by omega, rfl, Lib.hid (Below.refl _ _), Lib.hid fun j hj => absurd hj (Nat.not_lt_zero _)⟩
  case round =>
    obtain ⟨k, hk, hg, rfl, HB, HA⟩ := hrel
    by_cases hlt : k < n
    · have hkl : (k : Int) < (n : Int) := by omega
      have hk1 : k < ms.length := by have := HLn.out; omega
      have hk2 : k < ns.length := by have := HNn.out; omega
      obtain ⟨b1, o1, rfl, hb1, hcx⟩ := H1.out (by omega)
      obtain ⟨b2, o2, rfl, hb2, hcy⟩ := H2.out (by omega)
      have hx := hcx k hk1
      have hy := hcy k hk2
      have e0 : wr.cell? ⟨b1, o1 + k * 3, none⟩ = some (.string ms[k].1) := (HB.out.cell (p := ⟨b1, o1 + k * 3, none⟩) hb1).trans (hx.1)
      have f0 : wr.cell? ⟨b2, o2 + k * 3, none⟩ = some (.string ns[k].1) := (HB.out.cell (p := ⟨b2, o2 + k * 3, none⟩) hb2).trans (hy.1)
      have e1 : wr.cell? ⟨b1, o1 + k * 3 + 1, none⟩ = some (.int .u8 (ms[k].2.1 : Int)) := (HB.out.cell (p := ⟨b1, o1 + k * 3 + 1, none⟩) hb1).trans (hx.2.1)
      have f1 : wr.cell? ⟨b2, o2 + k * 3 + 1, none⟩ = some (.int .u8 (ns[k].2.1 : Int)) := (HB.out.cell (p := ⟨b2, o2 + k * 3 + 1, none⟩) hb2).trans (hy.2.1)
      have e2 : wr.cell? ⟨b1, o1 + k * 3 + 2, none⟩ = some (.string ms[k].2.2) := (HB.out.cell (p := ⟨b1, o1 + k * 3 + 2, none⟩) hb1).trans (hx.2.2)
      have f2 : wr.cell? ⟨b2, o2 + k * 3 + 2, none⟩ = some (.string ns[k].2.2) := (HB.out.cell (p := ⟨b2, o2 + k * 3 + 2, none⟩) hb2).trans (hy.2.2)
      have HN1 : Hid (ms[k] ≠ ns[k] → ¬ P) := Lib.hid fun h hp => by
        rw [← HPP.out] at hp
        subst hp
        exact h rfl
      have HA2 : Hid (ms[k] = ns[k] → ∀ j (_ : j < k + 1) (hj : j < ms.length) (hj2 : j < ns.length), ms[j] = ns[j]) := Lib.hid fun h0 j hj h1 h2 => by
        by_cases e : j = k
        · subst e; exact h0
        · exact HA.out j (by omega) h1 h2
      have HEq := Lib.hid (eqMt_iff ms[k] ns[k])
      have hne := eqMt_run ms[k] ns[k]
      clear hcx hcy hx hy HA
      generalize ms[k] = x at *
      generalize ns[k] = y at *
      clear hk1 hk2
      skip
      go_wp2_with fail
      refine wp_region_any (by kernel_rfl) ?_
      change wpAny _ _ _ _ _ _ _ (World.drew _)
      have hS : (fun w' : World => w'.cell? ⟨b1, o1 + k * 3, none⟩ = some (.string x.1) ∧ w'.cell? ⟨b1, o1 + k * 3 + 1, none⟩ = some (.int .u8 (x.2.1 : Int)) ∧ w'.cell? ⟨b1, o1 + k * 3 + 2, none⟩ = some (.string x.2.2) ∧ w'.cell? ⟨b2, o2 + k * 3, none⟩ = some (.string y.1) ∧ w'.cell? ⟨b2, o2 + k * 3 + 1, none⟩ = some (.int .u8 (y.2.1 : Int)) ∧ w'.cell? ⟨b2, o2 + k * 3 + 2, none⟩ = some (.string y.2.2)) wr.drew := ⟨e0, e1, e2, f0, f1, f2⟩
      refine wpAny_of_held (S := fun w' => w'.cell? ⟨b1, o1 + k * 3, none⟩ = some (.string x.1) ∧ w'.cell? ⟨b1, o1 + k * 3 + 1, none⟩ = some (.int .u8 (x.2.1 : Int)) ∧ w'.cell? ⟨b1, o1 + k * 3 + 2, none⟩ = some (.string x.2.2) ∧ w'.cell? ⟨b2, o2 + k * 3, none⟩ = some (.string y.1) ∧ w'.cell? ⟨b2, o2 + k * 3 + 1, none⟩ = some (.int .u8 (y.2.1 : Int)) ∧ w'.cell? ⟨b2, o2 + k * 3 + 2, none⟩ = some (.string y.2.2)) _ _ _ _ ?_
      refine wpAnyH_takeE (i := 0) (some 17) (v := ?_) rfl rfl (by as_aux_lemma => kernel_rfl) (by as_aux_lemma => kernel_rfl) (by as_aux_lemma => kernel_rfl) (fun _ _ _ h => h) (Or.inl ⟨by kernel_rfl, ?_⟩) hS ?_
      rotate_left
      · intro w hSw; obtain ⟨g0, g1, g2, g3, g4, g5⟩ := hSw; go_simp
        first | done | with_reducible rfl
      skip
      refine wpAnyH_takeE (i := 1) (some 18) (v := ?_) rfl rfl (by as_aux_lemma => kernel_rfl) (by as_aux_lemma => kernel_rfl) (by as_aux_lemma => kernel_rfl) (fun _ _ _ h => h) (Or.inl ⟨by kernel_rfl, ?_⟩) hS ?_
      rotate_left
      · intro w hSw; obtain ⟨g0, g1, g2, g3, g4, g5⟩ := hSw; go_simp
        first | done | with_reducible rfl
      skip
      refine wpAnyH_takeE (i := 2) (some 19) (v := ?_) rfl rfl (by as_aux_lemma => kernel_rfl) (by as_aux_lemma => kernel_rfl) (by as_aux_lemma => kernel_rfl) (fun _ _ _ h => h) (Or.inl ⟨by kernel_rfl, ?_⟩) hS ?_
      rotate_left
      · intro w hSw; obtain ⟨g0, g1, g2, g3, g4, g5⟩ := hSw; go_simp
        first | done | with_reducible rfl
      skip
      refine wpAnyH_takeE (i := 3) (some 20) (v := ?_) rfl rfl (by as_aux_lemma => kernel_rfl) (by as_aux_lemma => kernel_rfl) (by as_aux_lemma => kernel_rfl) (fun _ _ _ h => h) (Or.inl ⟨by kernel_rfl, ?_⟩) hS ?_
      rotate_left
      · intro w hSw; obtain ⟨g0, g1, g2, g3, g4, g5⟩ := hSw; go_simp
        first | done | with_reducible rfl
      skip
      refine wpAnyH_takeE (i := 4) (some 21) (v := ?_) rfl rfl (by as_aux_lemma => kernel_rfl) (by as_aux_lemma => kernel_rfl) (by as_aux_lemma => kernel_rfl) (fun _ _ _ h => h) (Or.inl ⟨by kernel_rfl, ?_⟩) hS ?_
      rotate_left
      · intro w hSw; obtain ⟨g0, g1, g2, g3, g4, g5⟩ := hSw; go_simp
        first | done | with_reducible rfl
      skip
      refine wpAnyH_takeE (i := 5) (some 22) (v := ?_) rfl rfl (by as_aux_lemma => kernel_rfl) (by as_aux_lemma => kernel_rfl) (by as_aux_lemma => kernel_rfl) (fun _ _ _ h => h) (Or.inl ⟨by kernel_rfl, ?_⟩) hS ?_
      rotate_left
      · intro w hSw; obtain ⟨g0, g1, g2, g3, g4, g5⟩ := hSw; go_simp
        first | done | with_reducible rfl
      skip
      refine wpAnyH_takeE (i := 6) (some 23) (v := ?_) rfl rfl (by as_aux_lemma => kernel_rfl) (by as_aux_lemma => kernel_rfl) (by as_aux_lemma => kernel_rfl) (fun _ _ _ h => h) (Or.inl ⟨by kernel_rfl, ?_⟩) hS ?_
      rotate_left
      · intro w hSw; obtain ⟨g0, g1, g2, g3, g4, g5⟩ := hSw; go_simp
        first | done | with_reducible rfl
      skip
      refine wpAnyH_takeE (i := 7) (some 24) (v := ?_) rfl rfl (by as_aux_lemma => kernel_rfl) (by as_aux_lemma => kernel_rfl) (by as_aux_lemma => kernel_rfl) (fun _ _ _ h => h) (Or.inl ⟨by kernel_rfl, ?_⟩) hS ?_
      rotate_left
      · intro w hSw; obtain ⟨g0, g1, g2, g3, g4, g5⟩ := hSw; go_simp
        first | done | with_reducible rfl
      skip
      refine wpAnyH_takeE (i := 8) (some 25) (v := ?_) rfl rfl (by as_aux_lemma => kernel_rfl) (by as_aux_lemma => kernel_rfl) (by as_aux_lemma => kernel_rfl) (fun _ _ _ h => h) (Or.inl ⟨by kernel_rfl, ?_⟩) hS ?_
      rotate_left
      · intro w hSw; obtain ⟨g0, g1, g2, g3, g4, g5⟩ := hSw; go_simp
        first | done | with_reducible rfl
      skip
      refine wpAnyH_done (by kernel_rfl) ?_ _
      clear hS e0 f0 e1 f1 e2 f2 hne
      go_simp
      cases hv : eqMt x y with
      | true =>
        have HA3 := Lib.hid (HA2.out (HEq.out.1 hv))
        clear HA2 HN1 HEq
        go_wp2
        go_roundg (n - (k + 1))
        case measure => omega
        case rel => exact ⟨k + 1, by omega, by omega, by go_num, Lib.hid HB.out.drew, HA3⟩
      | false =>
        have HT : Hid (Tells P (.returned (.bool false))) := Lib.hid ⟨false, rfl, ⟨fun h => (by cases h), fun h => absurd h (HN1.out fun e => by rw [HEq.out.2 e] at hv; cases hv)⟩⟩
        clear HA2 HN1 HEq
        go_wp2
        go_ret
        exact ⟨HT.out, HB.out.drew⟩
    · obtain rfl : k = n := by omega
      have HT : Hid (Tells P (.returned (.bool true))) := Lib.hid ⟨true, rfl, ⟨fun _ => by
        rw [← HPP.out]
        exact List.ext_getElem HL.out fun i h1 h2 => HA.out i (by have := HLn.out; omega) h1 h2, fun _ => rfl⟩⟩
      clear HA
      go_wp2
      go_ret
      exact ⟨HT.out, HB.out⟩

set_option maxRecDepth 20000 in
set_option maxHeartbeats 2000000 in
theorem yMutes_any (a : Option Addr) (c : Nat) (L : List Sm) (b : Option Addr) (d : Nat) (ps : List Pr) (p : Sm → Bool) (hp : ∀ x, p x = true ↔ silAsk ps x.s) (w : World) (hs : SilsAt w a L) (hml : ∀ x ∈ L, x.s.ms.length ≤ 9223372036854775807) (hz : ∀ x ∈ L, ∀ m ∈ x.s.ms, m.1.size ≤ 9223372036854775807) (h : PairsAt w b ps) (hn : ps.length ≤ 9223372036854775807) (hv : ∀ q ∈ ps, q.2.size ≤ 1000) (n : Nat) (hnl : n = L.length) (hl : n ≤ 9223372036854775807) (m : Nat) (hm : m = ps.length) :
    Calls Tryz.prog 36 #[.slice a n c, .slice b m d] w fun e w' => e = .returned (.bool (L.any p)) ∧ Below w.heap.size w w' := by
  obtain ⟨r, hr⟩ : ∃ r, r = L.any p := ⟨_, rfl⟩
  rw [← hr]
  have HR := Lib.hid hr
  have HN := Lib.hid hnl
  have HS := Lib.hid hs
  have HC : Hid (∀ u, Below w.heap.size w u → ∀ k (hk : k < L.length), Calls Tryz.prog 84 #[.slice L[k].ad L[k].s.ms.length L[k].cp, .slice b m d] u fun e w' => e = .returned (.bool (p L[k])) ∧ Below u.heap.size u w') := Lib.hid (fun u hu k hk => by
    obtain ⟨bq, oq, -, -, hc⟩ := hs.below hu (Nat.le_refl _) (Nat.lt_of_le_of_lt (Nat.zero_le _) hk)
    rw [hm]
    refine (nAll_any L[k].ad L[k].cp L[k].s.ms b d ps u (hc k hk).2 (hml _ (List.getElem_mem hk)) (hz _ (List.getElem_mem hk)) (h.below hu (Nat.le_refl _)) hn hv).mono ?_
    rintro e w' ⟨⟨q, he, hq⟩, hb⟩
    refine ⟨?_, hb⟩
    have : q = p L[k] := by
      rw [Bool.eq_iff_iff, hq, hp]
      rfl
    rw [he, this])
  clear hr hnl hs hml hz h hn hv hm
  go_enter Tryz.func36, Tryz.ntmps36
  go_wp2
  go_loopw [5] (fun i wr => ∃ k : Nat, k ≤ n ∧ i = .int .i64 k ∧ Hid (Below w.heap.size w wr) ∧ Hid ((L.take k).any p = false)) (fun i _ => n - (intOf i).toNat)
  case atStart => exact ⟨0, Nat.zero_le _, rfl, Lib.hid (Below.refl _ _), Lib.hid (by simp)⟩
  case round =>
    obtain ⟨k, hk, rfl, HB, HF⟩ := hrel
    by_cases hlt : k < n
    · have hkl : (k : Int) < (n : Int) := by omega
      have HLT := Lib.hid hlt
      have hkx : k < L.length := by have := HN.out; omega
      obtain ⟨b0, o0, rfl, hb, hc⟩ := HS.out (Nat.lt_of_le_of_lt (Nat.zero_le _) hkx)
      obtain ⟨⟨-, c1, -, -⟩, -⟩ := hc k hkx
      have c1' := (HB.out.cell (p := ⟨b0, o0 + k * 4 + 1, none⟩) hb).trans c1
      have HX := Lib.hid (HC.out wr HB.out k hkx)
      have HY := Lib.hid (any_next p L k hkx)
      have HZ : Hid (p L[k] = true → r = true) := Lib.hid (fun hq => by
        rw [HR.out]
        exact List.any_eq_true.2 ⟨_, List.getElem_mem hkx, hq⟩)
      clear hc c1 hb
      generalize L[k].ad = am at *
      generalize L[k].s.ms.length = nm at *
      generalize L[k].cp = cm at *
      generalize p L[k] = pk at *
      clear hkx
      cases pk with
      | true =>
        obtain rfl : r = true := HZ.out rfl
        go_wp2_with (go_at_call 84; refine HX.out.mono ?_; rintro e w2 ⟨rfl, q2⟩; replace q2 := Lib.hid q2; refine Hid.out ?_)
        refine Lib.hid ?_
        go_wp2
        go_ret
        exact ⟨rfl, HB.out.trans (q2.out.mono HB.out.size)⟩
      | false =>
        have HF2 : Hid ((L.take (k + 1)).any p = false) := Lib.hid (by rw [HY.out, HF.out]; rfl)
        clear HY HZ HF
        go_wp2_with (go_at_call 84; refine HX.out.mono ?_; rintro e w2 ⟨rfl, q2⟩; replace q2 := Lib.hid q2; refine Hid.out ?_)
        refine Lib.hid ?_
        go_wp2
        go_roundw
        case rel => exact ⟨k + 1, by have := HLT.out; omega, by go_num, Lib.hid (HB.out.trans (q2.out.mono HB.out.size)), HF2⟩
        case measure => have := HLT.out; simp [intOf]; omega
    · have hkl : ¬ (k : Int) < (n : Int) := by omega
      obtain rfl : r = false := by
        rw [HR.out]
        have := HF.out
        rw [show k = L.length by have := HN.out; omega, List.take_length] at this
        exact this
      clear HF
      go_wp2
      go_ret
      exact ⟨rfl, HB.out⟩

end Go.Proofs.YtcngifkoopcmeaaGreatDoor
