/-
  The reference's Children; whether two lists of numbers are the same. Where labels go, as the reference tells it. The walk of RouteWalks.
-/
import Derived.Test.YthaimnmbcbhioaaDoorRWalk
import Derived.Laws.AppendOwnNone
import Derived.Test.YthaimnmbcbhioaaDoorRAwake
import Derived.Test.YthaimnmbcbhioaaDoorRLight
import Derived.Test.YthaimnmbcbhioaaDoorM7
namespace Go.Proofs.YthaimnmbcbhioaaDoor
open Go.RowKit

/-- Numbers put behind numbers of the call's own. -/
theorem wpList_append_ints (w : World) {ops : Array Oper} {rest : List Oper} {o : Oper} {act : Act} {Q : Exit → Act → World → Prop} (hgd : o.guard = none) (s x : Operand)
    (ho : o.op = .call { callee := .builtin .append, args := #[s, x], argTypes := #[44, 44] }) (B : Nat) (v : Value) (rs : List Nat) (hs : act.eval s = v) (hown : w.ownsRow B 3 1 v rs.length (intsV rs))
    (q : Addr) (c : Nat) (ps : List Nat) (hx : act.eval x = .slice (some q) ps.length c) (hat : IntsAt w (some q) ps) (hb : rs.length + ps.length ≤ 1000000000) (hB : B ≤ w.heap.size)
    (h : ∀ v' w', w'.ownsRow B 3 1 v' (rs ++ ps).length (intsV (rs ++ ps)) → w.grownBy w' v.ownBlock → wpList Tryd.prog ops Q rest (act.put o.dst v') w') : wpList Tryd.prog ops Q (o :: rest) act w := by
  obtain ⟨i0, hi, hi0, hi1, hi2⟩ := info_parts infoInt
  refine wpList_append_own w hgd s x 44 ho B 3 i0 _ 1 8 Tryd.underlying44 hi hi0 hi1 hi2 rfl (by decide) v rs.length (intsV rs) hs hown q ps.length c (intsV ps) hx (by rw [intsV_len, Nat.mul_one]) (fun j u hj => ?_) (fun u hu => ?_) (by unfold maxLen; omega) (by omega) hB (fun v' w' h1 h2 _ => h v' w' ?_ h2)
  · have hj2 := (List.getElem?_eq_some_iff.1 hj).1
    rw [intsV_len] at hj2
    obtain ⟨b, o, he, -, hc⟩ := hat (by omega)
    obtain rfl := Option.some.inj he
    rw [Go.WideShapes.add_plain, hc j hj2]
    simpa [intsV, hj2] using hj
  · obtain ⟨k, -, rfl⟩ := List.mem_map.1 hu
    rfl
  · rw [List.length_append, intsV_app]
    exact h1


/-- Numbers that are handed back: nil where there are none. -/
def TellsList (L : List Nat) (e : Ending) (w' : World) : Prop := (L = [] ∧ e = .returned (.slice none 0 0)) ∨ (L ≠ [] ∧ ∃ q c, e = .returned (.slice (some q) L.length c) ∧ IntsAt w' (some q) L)

theorem IntsAt.of_tells {L : List Nat} {e : Ending} {w : World} (h : TellsList L e w) : TellsInts L e w := by
  rcases h with ⟨h1, h2⟩ | ⟨-, q, c, h1, h2⟩
  · subst h1
    exact ⟨none, 0, h2, fun h => absurd h (by simp)⟩
  · exact ⟨_, _, h1, h2⟩

set_option maxRecDepth 20000 in
set_option maxHeartbeats 2000000 in
theorem sameInts_any (a : Option Addr) (c : Nat) (b : Option Addr) (d : Nat) (L : List Nat) (w : World) (ha : IntsAt w a L) (hb : IntsAt w b L) (hn : L.length ≤ 1000000000) :
    Calls Tryd.prog 17 #[.slice a L.length c, .slice b L.length d] w fun e w' => e = .returned (.bool true) ∧ Below w.heap.size w w' := by
  go_enter Tryd.func17, Tryd.ntmps17
  go_wp2
  go_loopw [5] (fun z wr => ∃ k : Nat, k ≤ L.length ∧ z = .int .i64 k ∧ Hid (Below w.heap.size w wr)) (fun z _ => L.length - (intOf z).toNat)
  case atStart => exact ⟨0, Nat.zero_le _, rfl, Lib.hid (Below.refl _ _)⟩
  case round =>
    obtain ⟨k, hk, rfl, HB⟩ := hrel
    by_cases hlt : k < L.length
    · have hkl : (k : Int) < (L.length : Int) := by omega
      obtain ⟨xb, xo, rfl, hxb, hx⟩ := ha (by omega)
      obtain ⟨yb, yo, rfl, hyb, hy⟩ := hb (by omega)
      have ck : wr.cell? ⟨xb, xo + k, none⟩ = some (.int .i64 ((L[k] : Nat) : Int)) := (HB.out.cell (p := ⟨xb, xo + k, none⟩) hxb).trans (hx k hlt)
      have dk : wr.cell? ⟨yb, yo + k, none⟩ = some (.int .i64 ((L[k] : Nat) : Int)) := (HB.out.cell (p := ⟨yb, yo + k, none⟩) hyb).trans (hy k hlt)
      clear hx hy ha hb
      generalize L[k] = z at *
      go_wp2_with fail
      refine wp_region_any (by kernel_rfl) ?_
      change wpAny _ _ _ _ _ _ _ (World.drew _)
      have hS : (fun w' : World => w'.cell? ⟨xb, xo + k, none⟩ = some (.int .i64 (z : Int)) ∧ w'.cell? ⟨yb, yo + k, none⟩ = some (.int .i64 (z : Int))) wr.drew := ⟨ck, dk⟩
      refine wpAny_of_held (S := fun w' => w'.cell? ⟨xb, xo + k, none⟩ = some (.int .i64 (z : Int)) ∧ w'.cell? ⟨yb, yo + k, none⟩ = some (.int .i64 (z : Int))) _ _ _ _ ?_
      refine wpAnyH_take_at (i := 0) (some 17) (v := ?_) rfl rfl (by as_aux_lemma => kernel_rfl) (by as_aux_lemma => kernel_rfl) (by as_aux_lemma => kernel_rfl) (fun _ _ _ h => h) (Or.inl ⟨by kernel_rfl, ?_⟩) hS ?_
      rotate_left
      · intro w hSw; obtain ⟨e1, e2⟩ := hSw; go_simp
        first | done | with_reducible rfl
      skip
      refine wpAnyH_take_at (i := 1) (some 18) (v := ?_) rfl rfl (by as_aux_lemma => kernel_rfl) (by as_aux_lemma => kernel_rfl) (by as_aux_lemma => kernel_rfl) (fun _ _ _ h => h) (Or.inl ⟨by kernel_rfl, ?_⟩) hS ?_
      rotate_left
      · intro w hSw; obtain ⟨e1, e2⟩ := hSw; go_simp
        first | done | with_reducible rfl
      skip
      refine wpAnyH_take_at (i := 2) (some 19) (v := ?_) rfl rfl (by as_aux_lemma => kernel_rfl) (by as_aux_lemma => kernel_rfl) (by as_aux_lemma => kernel_rfl) (fun _ _ _ h => h) (Or.inl ⟨by kernel_rfl, ?_⟩) hS ?_
      rotate_left
      · intro w hSw; obtain ⟨e1, e2⟩ := hSw; go_simp
        first | done | with_reducible rfl
      skip
      refine wpAnyH_take_at (i := 3) (some 20) (v := ?_) rfl rfl (by as_aux_lemma => kernel_rfl) (by as_aux_lemma => kernel_rfl) (by as_aux_lemma => kernel_rfl) (fun _ _ _ h => h) (Or.inl ⟨by kernel_rfl, ?_⟩) hS ?_
      rotate_left
      · intro w hSw; obtain ⟨e1, e2⟩ := hSw; go_simp
        first | done | with_reducible rfl
      skip
      refine wpAnyH_take_at (i := 4) (some 21) (v := ?_) rfl rfl (by as_aux_lemma => kernel_rfl) (by as_aux_lemma => kernel_rfl) (by as_aux_lemma => kernel_rfl) (fun _ _ _ h => h) (Or.inl ⟨by kernel_rfl, ?_⟩) hS ?_
      rotate_left
      · intro w hSw; obtain ⟨e1, e2⟩ := hSw; go_simp
        first | done | with_reducible rfl
      skip
      refine wpAnyH_take_at (i := 5) (some 22) (v := ?_) rfl rfl (by as_aux_lemma => kernel_rfl) (by as_aux_lemma => kernel_rfl) (by as_aux_lemma => kernel_rfl) (fun _ _ _ h => h) (Or.inl ⟨by kernel_rfl, ?_⟩) hS ?_
      rotate_left
      · intro w hSw; obtain ⟨e1, e2⟩ := hSw; go_simp
        first | done | with_reducible rfl
      skip
      refine wpAnyH_take_at (i := 6) (some 23) (v := ?_) rfl rfl (by as_aux_lemma => kernel_rfl) (by as_aux_lemma => kernel_rfl) (by as_aux_lemma => kernel_rfl) (fun _ _ _ h => h) (Or.inl ⟨by kernel_rfl, ?_⟩) hS ?_
      rotate_left
      · intro w hSw; obtain ⟨e1, e2⟩ := hSw; go_simp
        first | done | with_reducible rfl
      skip
      refine wpAnyH_take_at (i := 7) (some 24) (v := ?_) rfl rfl (by as_aux_lemma => kernel_rfl) (by as_aux_lemma => kernel_rfl) (by as_aux_lemma => kernel_rfl) (fun _ _ _ h => h) (Or.inl ⟨by kernel_rfl, ?_⟩) hS ?_
      rotate_left
      · intro w hSw; obtain ⟨e1, e2⟩ := hSw; go_simp
        first | done | with_reducible rfl
      skip
      refine wpAnyH_take_at (i := 8) (some 25) (v := ?_) rfl rfl (by as_aux_lemma => kernel_rfl) (by as_aux_lemma => kernel_rfl) (by as_aux_lemma => kernel_rfl) (fun _ _ _ h => h) (Or.inl ⟨by kernel_rfl, ?_⟩) hS ?_
      rotate_left
      · intro w hSw; obtain ⟨e1, e2⟩ := hSw; go_simp
        first | done | with_reducible rfl
      skip
      refine wpAnyH_done (by kernel_rfl) ?_ _
      have HB2 := Lib.hid HB.out.drew
      clear hS ck dk HB
      go_simp
      generalize wr.drew = w2 at *
      go_wp2
      go_roundw
      case rel => exact ⟨k + 1, by omega, by go_num, HB2⟩
      case measure => simp [intOf]; omega
    · obtain rfl : k = L.length := by omega
      go_wp2
      go_ret
      exact ⟨rfl, HB.out⟩

end Go.Proofs.YthaimnmbcbhioaaDoor
