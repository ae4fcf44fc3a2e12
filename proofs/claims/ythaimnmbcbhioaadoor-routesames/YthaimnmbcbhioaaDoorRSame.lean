/-
  Whether two lists of matchers, of texts, two routes, two rules, two configurations are one, as package route tells it.
-/
import Derived.Test.YthaimnmbcbhioaaDoorRWalk
import Derived.Test.YthaimnmbcbhioaaDoorRCopy
import Derived.Laws.StructEq
namespace Go.Proofs.YthaimnmbcbhioaaDoor
open Go.RowKit

def eqMt (x y : Mt) : Bool := x.1.toList == y.1.toList && ((x.2.1 : Int) == (y.2.1 : Int)) && x.2.2.toList == y.2.2.toList
theorem eqMt_iff (x y : Mt) : eqMt x y = true ↔ x = y := by
  unfold eqMt
  rw [Bool.and_eq_true, Bool.and_eq_true, beq_iff_eq, beq_iff_eq, beq_iff_eq, ByteArray.toList_eq, ByteArray.toList_eq, ByteArray.toList_eq, ByteArray.toList_eq]
  constructor
  · rintro ⟨⟨h1, h2⟩, h3⟩
    exact Prod.ext (Go.WideShapes.bytes_inj h1) (Prod.ext (by omega) (Go.WideShapes.bytes_inj h3))
  · rintro rfl
    exact ⟨⟨rfl, rfl⟩, rfl⟩
theorem eqMt_run (x y : Mt) : ∀ w : World, (binOp .neq 36 (.agg #[.string x.1, .int .u8 (x.2.1 : Int), .string x.2.2]) (.agg #[.string y.1, .int .u8 (y.2.1 : Int), .string y.2.2])).run Tryd.prog w = .ok (.bool (!eqMt x y)) w := fun w => by
  have u9 := Tryd.underlying9
  have a9 := Tryd.isAgg9
  have z9 := Tryd.sizeOf9
  have u8 := Tryd.underlying34
  have a8 := Tryd.isAgg34
  have z8 := Tryd.sizeOf34
  have hS : Tryd.prog.underlying 36 = some (.struct (Tryd.prog.fieldsOf 36)) := by kernel_rfl
  have hp : Tryd.prog.stoodInHeld 36 = false := by kernel_rfl
  simp only [eqMt]
  rw [run_neq_struct, show (10000 : Nat) = 9999 + 1 from rfl, run_equalIn_agg w 9999 36 _ _ hS hp]
  simp only [Program.fieldsOf, Tryd.underlying36]
  go_simp
  by_cases h1 : x.1.toList = y.1.toList <;> by_cases h2 : (x.2.1 : Int) = (y.2.1 : Int) <;> by_cases h3 : x.2.2.toList = y.2.2.toList <;> simp [h1, h2, h3]
def eqSt (x y : ByteArray) : Bool := x.toList == y.toList
theorem eqSt_iff (x y : ByteArray) : eqSt x y = true ↔ x = y := str_eq
theorem eqSt_run (_ _ : ByteArray) : True := trivial

set_option maxRecDepth 20000 in
set_option maxHeartbeats 4000000 in
theorem eqMts_any (a : Option Addr) (c : Nat) (ms : List Mt) (b : Option Addr) (d : Nat) (ns : List Mt) (w : World) (h1 : MtsAt w a ms) (h2 : MtsAt w b ns) (hn : ms.length ≤ 1000) (hm : ns.length ≤ 1000) :
    Calls Tryd.prog 51 #[.slice a ms.length c, .slice b ns.length d] w fun e w' => Tells (ms = ns) e ∧ Below w.heap.size w w' := by
  have H1 := Lib.hid h1
  have H2 := Lib.hid h2
  clear h1 h2
  by_cases hl : ms.length = ns.length
  case neg =>
    have hl' : ((ms.length : Int) != (ns.length : Int)) = true := by simp; omega
    have HT : Hid (Tells (ms = ns) (.returned (.bool false))) := Lib.hid ⟨false, rfl, ⟨fun h => (by cases h), fun h => absurd (congrArg List.length h) hl⟩⟩
    go_enter Tryd.func51, Tryd.ntmps51
    go_wp2
    go_ret
    exact ⟨HT.out, Below.refl _ _⟩
  case pos =>
  have HL := Lib.hid hl
  have hl' : ((ms.length : Int) != (ns.length : Int)) = false := by simp; omega
  obtain ⟨n, hnn⟩ : ∃ n, n = ns.length := ⟨_, rfl⟩
  have HNn := Lib.hid hnn
  rw [← hnn] at hl' hl ⊢
  rw [hl] at hl' ⊢
  have HLn := Lib.hid hl
  have hnb : n ≤ 1000 := by omega
  clear hnn hl
  have HP : Hid (∀ P : Prop, P = (ms = ns) → True) := Lib.hid fun _ _ => trivial
  generalize hPP : (ms = ns) = P at *
  have HPP := Lib.hid hPP
  clear hPP HP
  go_enter Tryd.func51, Tryd.ntmps51
  go_wp2
  go_loopg [5, 13] n (fun gg _ s13 wr => ∃ k : Nat, k ≤ n ∧ n - k ≤ gg ∧ s13 = .int .i64 k ∧ Hid (Below w.heap.size w wr) ∧ Hid (∀ j (_ : j < k) (hj : j < ms.length) (hj2 : j < ns.length), ms[j] = ns[j]))
  case atStart => exact ⟨0, Nat.zero_le _, by omega, rfl, Lib.hid (Below.refl _ _), Lib.hid fun j hj => absurd hj (Nat.not_lt_zero _)⟩
  case round =>
    obtain ⟨k, hk, hg, rfl, HB, HA⟩ := hrel
    by_cases hlt : k < n
    · have hkl : (k : Int) < (n : Int) := by omega
      have hk1 : k < ms.length := by have := HLn.out; omega
      have hk2 : k < ns.length := by have := HNn.out; omega
      obtain ⟨b1, o1, rfl, hb1, hcx⟩ := H1.out (by omega)
      obtain ⟨b2, o2, rfl, hb2, hcy⟩ := H2.out (by omega)
      have hx := hcx k hk1
      have hy := hcy k hk2
      have e0 : wr.cell? ⟨b1, o1 + k * 3, none⟩ = some (.string ms[k].1) := (HB.out.cell (p := ⟨b1, o1 + k * 3, none⟩) hb1).trans (hx.1)
      have f0 : wr.cell? ⟨b2, o2 + k * 3, none⟩ = some (.string ns[k].1) := (HB.out.cell (p := ⟨b2, o2 + k * 3, none⟩) hb2).trans (hy.1)
      have e1 : wr.cell? ⟨b1, o1 + k * 3 + 1, none⟩ = some (.int .u8 (ms[k].2.1 : Int)) := (HB.out.cell (p := ⟨b1, o1 + k * 3 + 1, none⟩) hb1).trans (hx.2.1)
      have f1 : wr.cell? ⟨b2, o2 + k * 3 + 1, none⟩ = some (.int .u8 (ns[k].2.1 : Int)) := (HB.out.cell (p := ⟨b2, o2 + k * 3 + 1, none⟩) hb2).trans (hy.2.1)
      have e2 : wr.cell? ⟨b1, o1 + k * 3 + 2, none⟩ = some (.string ms[k].2.2) := (HB.out.cell (p := ⟨b1, o1 + k * 3 + 2, none⟩) hb1).trans (hx.2.2)
      have f2 : wr.cell? ⟨b2, o2 + k * 3 + 2, none⟩ = some (.string ns[k].2.2) := (HB.out.cell (p := ⟨b2, o2 + k * 3 + 2, none⟩) hb2).trans (hy.2.2)
      have HN1 : Hid (ms[k] ≠ ns[k] → ¬ P) := Lib.hid fun h hp => by
        rw [← HPP.out] at hp
        subst hp
        exact h rfl
      have HA2 : Hid (ms[k] = ns[k] → ∀ j (_ : j < k + 1) (hj : j < ms.length) (hj2 : j < ns.length), ms[j] = ns[j]) := Lib.hid fun h0 j hj h1 h2 => by
        by_cases e : j = k
        · subst e; exact h0
        · exact HA.out j (by omega) h1 h2
      have HEq := Lib.hid (eqMt_iff ms[k] ns[k])
      have hne := eqMt_run ms[k] ns[k]
      clear hcx hcy hx hy HA
      generalize ms[k] = x at *
      generalize ns[k] = y at *
      clear hk1 hk2
      skip
      go_wp2_with fail
      refine wp_region_any (by kernel_rfl) ?_
      change wpAny _ _ _ _ _ _ _ (World.drew _)
      have hS : (fun w' : World => w'.cell? ⟨b1, o1 + k * 3, none⟩ = some (.string x.1) ∧ w'.cell? ⟨b1, o1 + k * 3 + 1, none⟩ = some (.int .u8 (x.2.1 : Int)) ∧ w'.cell? ⟨b1, o1 + k * 3 + 2, none⟩ = some (.string x.2.2) ∧ w'.cell? ⟨b2, o2 + k * 3, none⟩ = some (.string y.1) ∧ w'.cell? ⟨b2, o2 + k * 3 + 1, none⟩ = some (.int .u8 (y.2.1 : Int)) ∧ w'.cell? ⟨b2, o2 + k * 3 + 2, none⟩ = some (.string y.2.2)) wr.drew := ⟨e0, e1, e2, f0, f1, f2⟩
      refine wpAny_of_held (S := fun w' => w'.cell? ⟨b1, o1 + k * 3, none⟩ = some (.string x.1) ∧ w'.cell? ⟨b1, o1 + k * 3 + 1, none⟩ = some (.int .u8 (x.2.1 : Int)) ∧ w'.cell? ⟨b1, o1 + k * 3 + 2, none⟩ = some (.string x.2.2) ∧ w'.cell? ⟨b2, o2 + k * 3, none⟩ = some (.string y.1) ∧ w'.cell? ⟨b2, o2 + k * 3 + 1, none⟩ = some (.int .u8 (y.2.1 : Int)) ∧ w'.cell? ⟨b2, o2 + k * 3 + 2, none⟩ = some (.string y.2.2)) _ _ _ _ ?_
      refine wpAnyH_take_at (i := 0) (some 16) (v := ?_) rfl rfl (by as_aux_lemma => kernel_rfl) (by as_aux_lemma => kernel_rfl) (by as_aux_lemma => kernel_rfl) (fun _ _ _ h => h) (Or.inl ⟨by kernel_rfl, ?_⟩) hS ?_
      rotate_left
      · intro w hSw; obtain ⟨g0, g1, g2, g3, g4, g5⟩ := hSw; go_simp
        first | done | with_reducible rfl
      skip
      refine wpAnyH_take_at (i := 1) (some 17) (v := ?_) rfl rfl (by as_aux_lemma => kernel_rfl) (by as_aux_lemma => kernel_rfl) (by as_aux_lemma => kernel_rfl) (fun _ _ _ h => h) (Or.inl ⟨by kernel_rfl, ?_⟩) hS ?_
      rotate_left
      · intro w hSw; obtain ⟨g0, g1, g2, g3, g4, g5⟩ := hSw; go_simp
        first | done | with_reducible rfl
      skip
      refine wpAnyH_take_at (i := 2) (some 18) (v := ?_) rfl rfl (by as_aux_lemma => kernel_rfl) (by as_aux_lemma => kernel_rfl) (by as_aux_lemma => kernel_rfl) (fun _ _ _ h => h) (Or.inl ⟨by kernel_rfl, ?_⟩) hS ?_
      rotate_left
      · intro w hSw; obtain ⟨g0, g1, g2, g3, g4, g5⟩ := hSw; go_simp
        first | done | with_reducible rfl
      skip
      refine wpAnyH_take_at (i := 3) (some 19) (v := ?_) rfl rfl (by as_aux_lemma => kernel_rfl) (by as_aux_lemma => kernel_rfl) (by as_aux_lemma => kernel_rfl) (fun _ _ _ h => h) (Or.inl ⟨by kernel_rfl, ?_⟩) hS ?_
      rotate_left
      · intro w hSw; obtain ⟨g0, g1, g2, g3, g4, g5⟩ := hSw; go_simp
        first | done | with_reducible rfl
      skip
      refine wpAnyH_take_at (i := 4) (some 20) (v := ?_) rfl rfl (by as_aux_lemma => kernel_rfl) (by as_aux_lemma => kernel_rfl) (by as_aux_lemma => kernel_rfl) (fun _ _ _ h => h) (Or.inl ⟨by kernel_rfl, ?_⟩) hS ?_
      rotate_left
      · intro w hSw; obtain ⟨g0, g1, g2, g3, g4, g5⟩ := hSw; go_simp
        first | done | with_reducible rfl
      skip
      refine wpAnyH_take_at (i := 5) (some 21) (v := ?_) rfl rfl (by as_aux_lemma => kernel_rfl) (by as_aux_lemma => kernel_rfl) (by as_aux_lemma => kernel_rfl) (fun _ _ _ h => h) (Or.inl ⟨by kernel_rfl, ?_⟩) hS ?_
      rotate_left
      · intro w hSw; obtain ⟨g0, g1, g2, g3, g4, g5⟩ := hSw; go_simp
        first | done | with_reducible rfl
      skip
      refine wpAnyH_take_at (i := 6) (some 22) (v := ?_) rfl rfl (by as_aux_lemma => kernel_rfl) (by as_aux_lemma => kernel_rfl) (by as_aux_lemma => kernel_rfl) (fun _ _ _ h => h) (Or.inl ⟨by kernel_rfl, ?_⟩) hS ?_
      rotate_left
      · intro w hSw; obtain ⟨g0, g1, g2, g3, g4, g5⟩ := hSw; go_simp
        first | done | with_reducible rfl
      skip
      refine wpAnyH_take_at (i := 7) (some 23) (v := ?_) rfl rfl (by as_aux_lemma => kernel_rfl) (by as_aux_lemma => kernel_rfl) (by as_aux_lemma => kernel_rfl) (fun _ _ _ h => h) (Or.inl ⟨by kernel_rfl, ?_⟩) hS ?_
      rotate_left
      · intro w hSw; obtain ⟨g0, g1, g2, g3, g4, g5⟩ := hSw; go_simp
        first | done | with_reducible rfl
      skip
      refine wpAnyH_take_at (i := 8) (some 24) (v := ?_) rfl rfl (by as_aux_lemma => kernel_rfl) (by as_aux_lemma => kernel_rfl) (by as_aux_lemma => kernel_rfl) (fun _ _ _ h => h) (Or.inl ⟨by kernel_rfl, ?_⟩) hS ?_
      rotate_left
      · intro w hSw; obtain ⟨g0, g1, g2, g3, g4, g5⟩ := hSw; go_simp
        first | done | with_reducible rfl
      skip
      refine wpAnyH_done (by kernel_rfl) ?_ _
      clear hS e0 f0 e1 f1 e2 f2 hne
      go_simp
      cases hv : eqMt x y with
      | true =>
        have HA3 := Lib.hid (HA2.out (HEq.out.1 hv))
        clear HA2 HN1 HEq
        go_wp2
        go_roundg (n - (k + 1))
        case measure => omega
        case rel => exact ⟨k + 1, by omega, by omega, by go_num, Lib.hid HB.out.drew, HA3⟩
      | false =>
        have HT : Hid (Tells P (.returned (.bool false))) := Lib.hid ⟨false, rfl, ⟨fun h => (by cases h), fun h => absurd h (HN1.out fun e => by rw [HEq.out.2 e] at hv; cases hv)⟩⟩
        clear HA2 HN1 HEq
        go_wp2
        go_ret
        exact ⟨HT.out, HB.out.drew⟩
    · obtain rfl : k = n := by omega
      have HT : Hid (Tells P (.returned (.bool true))) := Lib.hid ⟨true, rfl, ⟨fun _ => by
        rw [← HPP.out]
        exact List.ext_getElem HL.out fun i h1 h2 => HA.out i (by have := HLn.out; omega) h1 h2, fun _ => rfl⟩⟩
      clear HA
      go_wp2
      go_ret
      exact ⟨HT.out, HB.out⟩

set_option maxRecDepth 20000 in
set_option maxHeartbeats 4000000 in
theorem eqStrs_any (a : Option Addr) (c : Nat) (ms : List ByteArray) (b : Option Addr) (d : Nat) (ns : List ByteArray) (w : World) (h1 : StrsAt w a ms) (h2 : StrsAt w b ns) (hn : ms.length ≤ 1000) (hm : ns.length ≤ 1000) :
    Calls Tryd.prog 52 #[.slice a ms.length c, .slice b ns.length d] w fun e w' => Tells (ms = ns) e ∧ Below w.heap.size w w' := by
  have H1 := Lib.hid h1
  have H2 := Lib.hid h2
  clear h1 h2
  by_cases hl : ms.length = ns.length
  case neg =>
    have hl' : ((ms.length : Int) != (ns.length : Int)) = true := by simp; omega
    have HT : Hid (Tells (ms = ns) (.returned (.bool false))) := Lib.hid ⟨false, rfl, ⟨fun h => (by cases h), fun h => absurd (congrArg List.length h) hl⟩⟩
    go_enter Tryd.func52, Tryd.ntmps52
    go_wp2
    go_ret
    exact ⟨HT.out, Below.refl _ _⟩
  case pos =>
  have HL := Lib.hid hl
  have hl' : ((ms.length : Int) != (ns.length : Int)) = false := by simp; omega
  obtain ⟨n, hnn⟩ : ∃ n, n = ns.length := ⟨_, rfl⟩
  have HNn := Lib.hid hnn
  rw [← hnn] at hl' hl ⊢
  rw [hl] at hl' ⊢
  have HLn := Lib.hid hl
  have hnb : n ≤ 1000 := by omega
  clear hnn hl
  have HP : Hid (∀ P : Prop, P = (ms = ns) → True) := Lib.hid fun _ _ => trivial
  generalize hPP : (ms = ns) = P at *
  have HPP := Lib.hid hPP
  clear hPP HP
  go_enter Tryd.func52, Tryd.ntmps52
  go_wp2
  go_loopg [5, 13] n (fun gg _ s13 wr => ∃ k : Nat, k ≤ n ∧ n - k ≤ gg ∧ s13 = .int .i64 k ∧ Hid (Below w.heap.size w wr) ∧ Hid (∀ j (_ : j < k) (hj : j < ms.length) (hj2 : j < ns.length), ms[j] = ns[j]))
  case atStart => exact ⟨0, Nat.zero_le _, by omega, rfl, Lib.hid (Below.refl _ _), Lib.hid fun j hj => absurd hj (Nat.not_lt_zero _)⟩
  case round =>
    obtain ⟨k, hk, hg, rfl, HB, HA⟩ := hrel
    by_cases hlt : k < n
    · have hkl : (k : Int) < (n : Int) := by omega
      have hk1 : k < ms.length := by have := HLn.out; omega
      have hk2 : k < ns.length := by have := HNn.out; omega
      obtain ⟨b1, o1, rfl, hb1, hcx⟩ := H1.out (by omega)
      obtain ⟨b2, o2, rfl, hb2, hcy⟩ := H2.out (by omega)
      have hx := hcx k hk1
      have hy := hcy k hk2
      have e0 : wr.cell? ⟨b1, o1 + k, none⟩ = some (.string ms[k]) := (HB.out.cell (p := ⟨b1, o1 + k, none⟩) hb1).trans (hx)
      have f0 : wr.cell? ⟨b2, o2 + k, none⟩ = some (.string ns[k]) := (HB.out.cell (p := ⟨b2, o2 + k, none⟩) hb2).trans (hy)
      have HN1 : Hid (ms[k] ≠ ns[k] → ¬ P) := Lib.hid fun h hp => by
        rw [← HPP.out] at hp
        subst hp
        exact h rfl
      have HA2 : Hid (ms[k] = ns[k] → ∀ j (_ : j < k + 1) (hj : j < ms.length) (hj2 : j < ns.length), ms[j] = ns[j]) := Lib.hid fun h0 j hj h1 h2 => by
        by_cases e : j = k
        · subst e; exact h0
        · exact HA.out j (by omega) h1 h2
      have HEq := Lib.hid (eqSt_iff ms[k] ns[k])
      have hne := eqSt_run ms[k] ns[k]
      clear hcx hcy hx hy HA
      generalize ms[k] = x at *
      generalize ns[k] = y at *
      clear hk1 hk2
      unfold eqSt at *
      go_wp2_with fail
      refine wp_region_any (by kernel_rfl) ?_
      change wpAny _ _ _ _ _ _ _ (World.drew _)
      have hS : (fun w' : World => w'.cell? ⟨b1, o1 + k, none⟩ = some (.string x) ∧ w'.cell? ⟨b2, o2 + k, none⟩ = some (.string y)) wr.drew := ⟨e0, f0⟩
      refine wpAny_of_held (S := fun w' => w'.cell? ⟨b1, o1 + k, none⟩ = some (.string x) ∧ w'.cell? ⟨b2, o2 + k, none⟩ = some (.string y)) _ _ _ _ ?_
      refine wpAnyH_take_at (i := 0) (some 16) (v := ?_) rfl rfl (by as_aux_lemma => kernel_rfl) (by as_aux_lemma => kernel_rfl) (by as_aux_lemma => kernel_rfl) (fun _ _ _ h => h) (Or.inl ⟨by kernel_rfl, ?_⟩) hS ?_
      rotate_left
      · intro w hSw; obtain ⟨g0, g1⟩ := hSw; go_simp
        first | done | with_reducible rfl
      skip
      refine wpAnyH_take_at (i := 1) (some 17) (v := ?_) rfl rfl (by as_aux_lemma => kernel_rfl) (by as_aux_lemma => kernel_rfl) (by as_aux_lemma => kernel_rfl) (fun _ _ _ h => h) (Or.inl ⟨by kernel_rfl, ?_⟩) hS ?_
      rotate_left
      · intro w hSw; obtain ⟨g0, g1⟩ := hSw; go_simp
        first | done | with_reducible rfl
      skip
      refine wpAnyH_take_at (i := 2) (some 18) (v := ?_) rfl rfl (by as_aux_lemma => kernel_rfl) (by as_aux_lemma => kernel_rfl) (by as_aux_lemma => kernel_rfl) (fun _ _ _ h => h) (Or.inl ⟨by kernel_rfl, ?_⟩) hS ?_
      rotate_left
      · intro w hSw; obtain ⟨g0, g1⟩ := hSw; go_simp
        first | done | with_reducible rfl
      skip
      refine wpAnyH_take_at (i := 3) (some 19) (v := ?_) rfl rfl (by as_aux_lemma => kernel_rfl) (by as_aux_lemma => kernel_rfl) (by as_aux_lemma => kernel_rfl) (fun _ _ _ h => h) (Or.inl ⟨by kernel_rfl, ?_⟩) hS ?_
      rotate_left
      · intro w hSw; obtain ⟨g0, g1⟩ := hSw; go_simp
        first | done | with_reducible rfl
      skip
      refine wpAnyH_take_at (i := 4) (some 20) (v := ?_) rfl rfl (by as_aux_lemma => kernel_rfl) (by as_aux_lemma => kernel_rfl) (by as_aux_lemma => kernel_rfl) (fun _ _ _ h => h) (Or.inl ⟨by kernel_rfl, ?_⟩) hS ?_
      rotate_left
      · intro w hSw; obtain ⟨g0, g1⟩ := hSw; go_simp
        first | done | with_reducible rfl
      skip
      refine wpAnyH_take_at (i := 5) (some 21) (v := ?_) rfl rfl (by as_aux_lemma => kernel_rfl) (by as_aux_lemma => kernel_rfl) (by as_aux_lemma => kernel_rfl) (fun _ _ _ h => h) (Or.inl ⟨by kernel_rfl, ?_⟩) hS ?_
      rotate_left
      · intro w hSw; obtain ⟨g0, g1⟩ := hSw; go_simp
        first | done | with_reducible rfl
      skip
      refine wpAnyH_take_at (i := 6) (some 22) (v := ?_) rfl rfl (by as_aux_lemma => kernel_rfl) (by as_aux_lemma => kernel_rfl) (by as_aux_lemma => kernel_rfl) (fun _ _ _ h => h) (Or.inl ⟨by kernel_rfl, ?_⟩) hS ?_
      rotate_left
      · intro w hSw; obtain ⟨g0, g1⟩ := hSw; go_simp
        first | done | with_reducible rfl
      skip
      refine wpAnyH_take_at (i := 7) (some 23) (v := ?_) rfl rfl (by as_aux_lemma => kernel_rfl) (by as_aux_lemma => kernel_rfl) (by as_aux_lemma => kernel_rfl) (fun _ _ _ h => h) (Or.inl ⟨by kernel_rfl, ?_⟩) hS ?_
      rotate_left
      · intro w hSw; obtain ⟨g0, g1⟩ := hSw; go_simp
        first | done | with_reducible rfl
      skip
      refine wpAnyH_take_at (i := 8) (some 24) (v := ?_) rfl rfl (by as_aux_lemma => kernel_rfl) (by as_aux_lemma => kernel_rfl) (by as_aux_lemma => kernel_rfl) (fun _ _ _ h => h) (Or.inl ⟨by kernel_rfl, ?_⟩) hS ?_
      rotate_left
      · intro w hSw; obtain ⟨g0, g1⟩ := hSw; go_simp
        first | done | with_reducible rfl
      skip
      refine wpAnyH_done (by kernel_rfl) ?_ _
      clear hS e0 f0 hne
      go_simp
      cases hv : (x.toList == y.toList) with
      | true =>
        have HA3 := Lib.hid (HA2.out (HEq.out.1 hv))
        clear HA2 HN1 HEq
        go_wp2
        go_roundg (n - (k + 1))
        case measure => omega
        case rel => exact ⟨k + 1, by omega, by omega, by go_num, Lib.hid HB.out.drew, HA3⟩
      | false =>
        have HT : Hid (Tells P (.returned (.bool false))) := Lib.hid ⟨false, rfl, ⟨fun h => (by cases h), fun h => absurd h (HN1.out fun e => by rw [HEq.out.2 e] at hv; cases hv)⟩⟩
        clear HA2 HN1 HEq
        go_wp2
        go_ret
        exact ⟨HT.out, HB.out.drew⟩
    · obtain rfl : k = n := by omega
      have HT : Hid (Tells P (.returned (.bool true))) := Lib.hid ⟨true, rfl, ⟨fun _ => by
        rw [← HPP.out]
        exact List.ext_getElem HL.out fun i h1 h2 => HA.out i (by have := HLn.out; omega) h1 h2, fun _ => rfl⟩⟩
      clear HA
      go_wp2
      go_ret
      exact ⟨HT.out, HB.out⟩

theorem nrm_iff (r s : Rt) : nrm r = nrm s ↔ r.par = s.par ∧ r.ms = s.ms ∧ r.co = s.co ∧ r.bys = s.bys ∧ r.rc = s.rc ∧ r.wt = s.wt ∧ r.iv = s.iv ∧ r.rp = s.rp := by
  cases r
  cases s
  simp only [nrm, Rt.mk.injEq, true_and]
theorem nrmL_iff (r s : Rl) : nrmL r = nrmL s ↔ r.src = s.src ∧ r.tgt = s.tgt ∧ r.eqs = s.eqs := by
  cases r
  cases s
  simp only [nrmL, Rl.mk.injEq, true_and]
abbrev RtAt (w : World) (r : Rt) : Prop := MtsAt w r.ma r.ms ∧ StrsAt w r.ba r.bys
abbrev RuAt (w : World) (r : Rl) : Prop := MtsAt w r.sa r.src ∧ MtsAt w r.ta r.tgt ∧ StrsAt w r.ea r.eqs
theorem RtAt.below {w w' : World} {r : Rt} {B : Nat} (h : RtAt w r) (hb : Below B w w') (hB : w.heap.size ≤ B) : RtAt w' r := ⟨h.1.below hb hB, h.2.below hb hB⟩
theorem RuAt.below {w w' : World} {r : Rl} {B : Nat} (h : RuAt w r) (hb : Below B w w') (hB : w.heap.size ≤ B) : RuAt w' r := ⟨h.1.below hb hB, h.2.1.below hb hB, h.2.2.below hb hB⟩
abbrev RtFew (r : Rt) : Prop := r.ms.length ≤ 1000 ∧ r.bys.length ≤ 1000
abbrev RuFew (r : Rl) : Prop := r.src.length ≤ 1000 ∧ r.tgt.length ≤ 1000 ∧ r.eqs.length ≤ 1000

set_option maxRecDepth 20000 in
set_option maxHeartbeats 4000000 in
theorem tsameRule_any (r s : Rl) (w : World) (hr : RuAt w r) (hs : RuAt w s) (fr : RuFew r) (fs : RuFew s) :
    Calls Tryd.prog 34 #[.agg #[.slice r.sa r.src.length r.sc, .slice r.ta r.tgt.length r.tc, .slice r.ea r.eqs.length r.ec], .agg #[.slice s.sa s.src.length s.sc, .slice s.ta s.tgt.length s.tc, .slice s.ea s.eqs.length s.ec]] w fun e w' => Tells (nrmL r = nrmL s) e ∧ Below w.heap.size w w' := by
  obtain ⟨w1, hw1⟩ : ∃ x, x = w.alloc (.cells #[.slice r.sa r.src.length r.sc, .slice r.ta r.tgt.length r.tc, .slice r.ea r.eqs.length r.ec] 38) := ⟨_, rfl⟩
  obtain ⟨w2, hw2⟩ : ∃ x, x = w1.alloc (.cells #[.slice s.sa s.src.length s.sc, .slice s.ta s.tgt.length s.tc, .slice s.ea s.eqs.length s.ec] 38) := ⟨_, rfl⟩
  have s1 : w1.heap.size = w.heap.size + 1 := by rw [hw1]; simp
  have d1 : Below w.heap.size w w1 := by rw [hw1]; exact (Below.refl w.heap.size w).alloc (Nat.le_refl _) _
  have d2 : Below w1.heap.size w1 w2 := by rw [hw2]; exact (Below.refl w1.heap.size w1).alloc (Nat.le_refl _) _
  have k1 : RuBlk w1 w.heap.size r := by rw [hw1]; exact heap_new w _
  have k2 : RuBlk w2 (w.heap.size + 1) s := by rw [hw2, ← s1]; exact heap_new w1 _
  have K1 := Lib.hid (k1.below d2)
  have K2 := Lib.hid k2
  have E2 := Lib.hid (d1.trans (d2.mono d1.size))
  have H1 := Lib.hid (fun u (hb : Below w.heap.size w u) => eqMts_any r.sa r.sc r.src s.sa s.sc s.src u (hr.1.below hb (Nat.le_refl _)) (hs.1.below hb (Nat.le_refl _)) fr.1 fs.1)
  have H2 := Lib.hid (fun u (hb : Below w.heap.size w u) => eqMts_any r.ta r.tc r.tgt s.ta s.tc s.tgt u (hr.2.1.below hb (Nat.le_refl _)) (hs.2.1.below hb (Nat.le_refl _)) fr.2.1 fs.2.1)
  have H3 := Lib.hid (fun u (hb : Below w.heap.size w u) => eqStrs_any r.ea r.ec r.eqs s.ea s.ec s.eqs u (hr.2.2.below hb (Nat.le_refl _)) (hs.2.2.below hb (Nat.le_refl _)) fr.2.2 fs.2.2)
  have HI := Lib.hid (nrmL_iff r s)
  generalize (nrmL r = nrmL s) = P at *
  generalize (r.src = s.src) = P1 at *
  generalize (r.tgt = s.tgt) = P2 at *
  generalize (r.eqs = s.eqs) = P3 at *
  have H1' := Lib.hid (H1.out _ E2.out)
  clear d1 d2 k1 k2 s1 hr hs fr fs H1
  subst hw2
  subst hw1
  go_enter Tryd.func34, Tryd.ntmps34
  go_wp2_with (go_at_call 51; refine H1'.out.mono ?_; rintro e w3 ⟨⟨b1, rfl, hb1⟩, q3⟩; have HB1 := Lib.hid hb1; clear hb1; refine Hid.out ?_)
  refine Lib.hid ?_
  have E3 := Lib.hid (E2.out.trans (q3.mono E2.out.size))
  have K13 := Lib.hid (K1.out.below q3)
  have K23 := Lib.hid (K2.out.below q3)
  clear q3 E2 K1 K2 H1'
  cases b1 with
  | false =>
    have HT : Hid (Tells P (.returned (.bool false))) := Lib.hid ⟨false, rfl, ⟨fun h => (by cases h), fun h => by have := HB1.out.2 (HI.out.1 h).1; cases this⟩⟩
    clear HI HB1
    go_wp2
    go_ret
    exact ⟨HT.out, E3.out⟩
  | true =>
  have HP1 := Lib.hid (HB1.out.1 rfl)
  have y1 : w3.cell? ⟨w.heap.size, 1, none⟩ = some (.slice r.ta r.tgt.length r.tc) := cell_heap K13.out
  have z1 : w3.cell? ⟨w.heap.size + 1, 1, none⟩ = some (.slice s.ta s.tgt.length s.tc) := cell_heap K23.out
  have H2' := Lib.hid (H2.out _ E3.out)
  clear HB1
  go_wp2_with (go_at_call 51; refine H2'.out.mono ?_; rintro e w4 ⟨⟨b2, rfl, hb2⟩, q4⟩; have HB2 := Lib.hid hb2; clear hb2; refine Hid.out ?_)
  refine Lib.hid ?_
  have E4 := Lib.hid (E3.out.trans (q4.mono E3.out.size))
  have K14 := Lib.hid (K13.out.below q4)
  have K24 := Lib.hid (K23.out.below q4)
  clear q4 E3 K13 K23 H2' H2 y1 z1
  cases b2 with
  | false =>
    have HT : Hid (Tells P (.returned (.bool false))) := Lib.hid ⟨false, rfl, ⟨fun h => (by cases h), fun h => by have := HB2.out.2 (HI.out.1 h).2.1; cases this⟩⟩
    clear HI HB2
    go_wp2
    go_ret
    exact ⟨HT.out, E4.out⟩
  | true =>
  have HP2 := Lib.hid (HB2.out.1 rfl)
  have y2 : w4.cell? ⟨w.heap.size, 2, none⟩ = some (.slice r.ea r.eqs.length r.ec) := cell_heap K14.out
  have z2 : w4.cell? ⟨w.heap.size + 1, 2, none⟩ = some (.slice s.ea s.eqs.length s.ec) := cell_heap K24.out
  have H3' := Lib.hid (H3.out _ E4.out)
  clear HB2
  go_wp2_with (go_at_call 52; refine H3'.out.mono ?_; rintro e w5 ⟨⟨b3, rfl, hb3⟩, q5⟩; have HB3 := Lib.hid hb3; clear hb3; refine Hid.out ?_)
  refine Lib.hid ?_
  have E5 := Lib.hid (E4.out.trans (q5.mono E4.out.size))
  have HT : Hid (Tells P (.returned (.bool b3))) := Lib.hid ⟨b3, rfl, ⟨fun h => HI.out.2 ⟨HP1.out, HP2.out, HB3.out.1 h⟩, fun h => HB3.out.2 (HI.out.1 h).2.2⟩⟩
  clear q5 E4 K14 K24 H3' H3 y2 z2 HB3 HI
  cases b3
  all_goals
    go_wp2
    go_ret
    exact ⟨HT.out, E5.out⟩

set_option maxRecDepth 20000 in
set_option maxHeartbeats 8000000 in
theorem tsameRoute_any (r s : Rt) (w : World) (hr : RtAt w r) (hs : RtAt w s) (fr : RtFew r) (fs : RtFew s) :
    Calls Tryd.prog 32 #[.agg #[.int .i64 r.par, .slice r.ma r.ms.length r.mc, .bool r.co, .slice r.ba r.bys.length r.bc, .string r.rc, .int .i64 r.wt, .int .i64 r.iv, .int .i64 r.rp], .agg #[.int .i64 s.par, .slice s.ma s.ms.length s.mc, .bool s.co, .slice s.ba s.bys.length s.bc, .string s.rc, .int .i64 s.wt, .int .i64 s.iv, .int .i64 s.rp]] w fun e w' => Tells (nrm r = nrm s) e ∧ Below w.heap.size w w' := by
  obtain ⟨w1, hw1⟩ : ∃ x, x = w.alloc (.cells #[.int .i64 r.par, .slice r.ma r.ms.length r.mc, .bool r.co, .slice r.ba r.bys.length r.bc, .string r.rc, .int .i64 r.wt, .int .i64 r.iv, .int .i64 r.rp] 33) := ⟨_, rfl⟩
  obtain ⟨w2, hw2⟩ : ∃ x, x = w1.alloc (.cells #[.int .i64 s.par, .slice s.ma s.ms.length s.mc, .bool s.co, .slice s.ba s.bys.length s.bc, .string s.rc, .int .i64 s.wt, .int .i64 s.iv, .int .i64 s.rp] 33) := ⟨_, rfl⟩
  have s1 : w1.heap.size = w.heap.size + 1 := by rw [hw1]; simp
  have d1 : Below w.heap.size w w1 := by rw [hw1]; exact (Below.refl w.heap.size w).alloc (Nat.le_refl _) _
  have d2 : Below w1.heap.size w1 w2 := by rw [hw2]; exact (Below.refl w1.heap.size w1).alloc (Nat.le_refl _) _
  have k1 : RtBlk w1 w.heap.size (.slice r.ma r.ms.length r.mc) (.slice r.ba r.bys.length r.bc) r := by rw [hw1]; exact heap_new w _
  have k2 : RtBlk w2 (w.heap.size + 1) (.slice s.ma s.ms.length s.mc) (.slice s.ba s.bys.length s.bc) s := by rw [hw2, ← s1]; exact heap_new w1 _
  have K1 := Lib.hid (k1.below d2)
  have K2 := Lib.hid k2
  have E2 := Lib.hid (d1.trans (d2.mono d1.size))
  have H1 := Lib.hid (fun u (hb : Below w.heap.size w u) => eqMts_any r.ma r.mc r.ms s.ma s.mc s.ms u (hr.1.below hb (Nat.le_refl _)) (hs.1.below hb (Nat.le_refl _)) fr.1 fs.1)
  have H2 := Lib.hid (fun u (hb : Below w.heap.size w u) => eqStrs_any r.ba r.bc r.bys s.ba s.bc s.bys u (hr.2.below hb (Nat.le_refl _)) (hs.2.below hb (Nat.le_refl _)) fr.2 fs.2)
  have HI := Lib.hid (nrm_iff r s)
  have HRc := Lib.hid (str_eq (a := r.rc) (b := s.rc))
  generalize (nrm r = nrm s) = P at *
  generalize (r.ms = s.ms) = P1 at *
  generalize (r.bys = s.bys) = P2 at *
  have H1' := Lib.hid (H1.out _ E2.out)
  clear d1 d2 k1 k2 s1 hr hs fr fs H1
  subst hw2
  subst hw1
  by_cases hp : r.par = s.par
  case neg =>
    have hp' : (r.par == s.par) = false := beq_eq_false_iff_ne.2 hp
    have HT : Hid (Tells P (.returned (.bool false))) := Lib.hid ⟨false, rfl, ⟨fun h => (by cases h), fun h => absurd (HI.out.1 h).1 hp⟩⟩
    clear HI hp
    go_enter Tryd.func32, Tryd.ntmps32
    go_wp2
    go_ret
    exact ⟨HT.out, E2.out⟩
  case pos =>
  have hp' : (r.par == s.par) = true := beq_iff_eq.2 hp
  have HP := Lib.hid hp
  clear hp
  go_enter Tryd.func32, Tryd.ntmps32
  go_wp2_with (go_at_call 51; refine H1'.out.mono ?_; rintro e w3 ⟨⟨b1, rfl, hb1⟩, q3⟩; have HB1 := Lib.hid hb1; clear hb1; refine Hid.out ?_)
  refine Lib.hid ?_
  have E3 := Lib.hid (E2.out.trans (q3.mono E2.out.size))
  have K13 := Lib.hid (K1.out.below q3)
  have K23 := Lib.hid (K2.out.below q3)
  clear q3 E2 K1 K2 H1' hp'
  cases b1 with
  | false =>
    have HT : Hid (Tells P (.returned (.bool false))) := Lib.hid ⟨false, rfl, ⟨fun h => (by cases h), fun h => by have := HB1.out.2 (HI.out.1 h).2.1; cases this⟩⟩
    clear HI HB1
    go_wp2
    go_ret
    exact ⟨HT.out, E3.out⟩
  | true =>
  have HP1 := Lib.hid (HB1.out.1 rfl)
  have ay2 : w3.cell? ⟨w.heap.size, 2, none⟩ = some (.bool r.co) := cell_heap K13.out
  have az2 : w3.cell? ⟨w.heap.size + 1, 2, none⟩ = some (.bool s.co) := cell_heap K23.out
  have ay3 : w3.cell? ⟨w.heap.size, 3, none⟩ = some (.slice r.ba r.bys.length r.bc) := cell_heap K13.out
  have az3 : w3.cell? ⟨w.heap.size + 1, 3, none⟩ = some (.slice s.ba s.bys.length s.bc) := cell_heap K23.out
  by_cases hco : r.co = s.co
  case neg =>
    have hco' : (r.co == s.co) = false := beq_eq_false_iff_ne.2 hco
    have HT : Hid (Tells P (.returned (.bool false))) := Lib.hid ⟨false, rfl, ⟨fun h => (by cases h), fun h => absurd (HI.out.1 h).2.2.1 hco⟩⟩
    clear HI HB1 hco
    go_wp2
    go_ret
    exact ⟨HT.out, E3.out⟩
  case pos =>
  have hco' : (r.co == s.co) = true := beq_iff_eq.2 hco
  have HCo := Lib.hid hco
  have H2' := Lib.hid (H2.out _ E3.out)
  clear hco HB1
  go_wp2_with (go_at_call 52; refine H2'.out.mono ?_; rintro e w4 ⟨⟨b2, rfl, hb2⟩, q4⟩; have HB2 := Lib.hid hb2; clear hb2; refine Hid.out ?_)
  refine Lib.hid ?_
  have E4 := Lib.hid (E3.out.trans (q4.mono E3.out.size))
  have K14 := Lib.hid (K13.out.below q4)
  have K24 := Lib.hid (K23.out.below q4)
  clear q4 E3 K13 K23 H2' H2 ay2 az2 ay3 az3 hco'
  cases b2 with
  | false =>
    have HT : Hid (Tells P (.returned (.bool false))) := Lib.hid ⟨false, rfl, ⟨fun h => (by cases h), fun h => by have := HB2.out.2 (HI.out.1 h).2.2.2.1; cases this⟩⟩
    clear HI HB2
    go_wp2
    go_ret
    exact ⟨HT.out, E4.out⟩
  | true =>
  have HP2 := Lib.hid (HB2.out.1 rfl)
  clear HB2
  have by4 : w4.cell? ⟨w.heap.size, 4, none⟩ = some (.string r.rc) := cell_heap K14.out
  have bz4 : w4.cell? ⟨w.heap.size + 1, 4, none⟩ = some (.string s.rc) := cell_heap K24.out
  have by5 : w4.cell? ⟨w.heap.size, 5, none⟩ = some (.int .i64 r.wt) := cell_heap K14.out
  have bz5 : w4.cell? ⟨w.heap.size + 1, 5, none⟩ = some (.int .i64 s.wt) := cell_heap K24.out
  have by6 : w4.cell? ⟨w.heap.size, 6, none⟩ = some (.int .i64 r.iv) := cell_heap K14.out
  have bz6 : w4.cell? ⟨w.heap.size + 1, 6, none⟩ = some (.int .i64 s.iv) := cell_heap K24.out
  have by7 : w4.cell? ⟨w.heap.size, 7, none⟩ = some (.int .i64 r.rp) := cell_heap K14.out
  have bz7 : w4.cell? ⟨w.heap.size + 1, 7, none⟩ = some (.int .i64 s.rp) := cell_heap K24.out
  have HT : Hid (Tells P (.returned (.bool ((r.rc.toList == s.rc.toList) && (r.wt == s.wt) && (r.iv == s.iv) && (r.rp == s.rp))))) := Lib.hid ⟨_, rfl, by
    simp only [Bool.and_eq_true, beq_iff_eq]
    rw [HI.out]
    constructor
    · rintro ⟨⟨⟨h1, h2⟩, h3⟩, h4⟩
      exact ⟨HP.out, HP1.out, HCo.out, HP2.out, HRc.out.1 (beq_iff_eq.2 h1), h2, h3, h4⟩
    · rintro ⟨-, -, -, -, h1, h2, h3, h4⟩
      exact ⟨⟨⟨beq_iff_eq.1 (HRc.out.2 h1), h2⟩, h3⟩, h4⟩⟩
  clear HI HRc HP HP1 HCo HP2
  cases hv1 : (r.rc.toList == s.rc.toList)
  · rw [hv1] at HT
    simp only [Bool.false_and] at HT
    go_wp2
    go_ret
    exact ⟨HT.out, E4.out⟩
  cases hv2 : (r.wt == s.wt)
  · rw [hv1, hv2] at HT
    simp only [Bool.true_and, Bool.false_and] at HT
    go_wp2
    go_ret
    exact ⟨HT.out, E4.out⟩
  cases hv3 : (r.iv == s.iv)
  · rw [hv1, hv2, hv3] at HT
    simp only [Bool.true_and, Bool.false_and] at HT
    go_wp2
    go_ret
    exact ⟨HT.out, E4.out⟩
  rw [hv1, hv2, hv3] at HT
  simp only [Bool.true_and] at HT
  cases hv4 : (r.rp == s.rp)
  all_goals
    rw [hv4] at HT
    go_wp2
    go_ret
    exact ⟨HT.out, E4.out⟩

end Go.Proofs.YthaimnmbcbhioaaDoor
