/-
  What the closure of View asks; slices.IndexFunc at entries, with a closure that may make memory.
-/
import Derived.Test.YtkbonifbnbdbkabC10
namespace Go.Proofs.Ytkbonifbnbdbkab
open Go.RowKit Go.Maps

set_option maxHeartbeats 1000000 in
theorem cView1_any (x : Ent) (B : Nat) (now : Int) (w : World) (hB : w.cell? ⟨B, 0, none⟩ = some (.int .i64 now)) :
    Calls Try.prog 27 #[.agg #[.string x.k, .int .i64 x.t, .int .u16 x.o, .string x.v, .int .i64 x.u], .pointer (some ⟨B, 0, none⟩)] w fun e w' => e = .returned (.bool (!decide (now < x.u))) ∧ Below w.heap.size w w' := by
  have hlt := World.block_lt_of_cell? w _ hB
  have d1 := (Below.refl w.heap.size w).alloc (Nat.le_refl _) (.cells #[.string x.k, .int .i64 x.t, .int .u16 x.o, .string x.v, .int .i64 x.u] 36)
  have c1 := (d1.cell (p := ⟨B, 0, none⟩) hlt).trans hB
  have HT := Lib.hid (eCounts_any x now (w.alloc (.cells #[.string x.k, .int .i64 x.t, .int .u16 x.o, .string x.v, .int .i64 x.u] 36)))
  have HD := Lib.hid d1
  generalize decide (now < x.u) = b at *
  obtain ⟨kx, tx, ox, vx, ux⟩ := x
  dsimp only at HT HD c1
  clear d1 hB hlt
  go_enter Try.func27, Try.ntmps27
  go_wp2_with (go_at_call 28; refine HT.out.mono ?_; rintro e w2 ⟨rfl, q2⟩; refine Hid.out ?_)
  refine Lib.hid ?_
  have HQ := Lib.hid (HD.out.trans (q2.mono HD.out.size))
  clear q2 c1 HT HD
  go_wp2
  go_ret
  exact ⟨rfl, HQ.out⟩
/-- Where the first is that a question says yes to; -1 if none. -/
def idxP (l : List Ent) (p : Ent → Bool) (k : Nat) : Prop := k < l.length ∧ (∀ j (hj : j < l.length), j < k → p l[j] = false) ∧ ∀ hk : k < l.length, p l[k] = true
def IdxPost (l : List Ent) (p : Ent → Bool) (w : World) (e : Ending) (w' : World) : Prop := ((∃ k : Nat, e = .returned (.int .i64 k) ∧ idxP l p k) ∨ (e = .returned (.int .i64 (-1)) ∧ ∀ x ∈ l, p x = false)) ∧ Below w.heap.size w w'
set_option maxRecDepth 100000 in
set_option maxHeartbeats 4000000 in
theorem idxE_any (a : Option Addr) (c : Nat) (l : List Ent) (p : Ent → Bool) (g : Nat) (lb : Array Value) (eg : ∀ args w, (callFunc g args).run Try.prog w = .ok (.enter g args) w) (w : World) (he : EntsAt w a l) (n : Nat) (hn : n = l.length) (hl : n ≤ 256)
    (hp : ∀ W, Below w.heap.size w W → ∀ x ∈ l, Calls Try.prog g (#[.agg #[.string x.k, .int .i64 x.t, .int .u16 x.o, .string x.v, .int .i64 x.u]] ++ lb) W fun e w' => e = .returned (.bool (p x)) ∧ Below W.heap.size W w') :
    Calls Try.prog 36 #[.slice a n c, .func (.func g) #[] lb] w (IdxPost l p w) := by
  have HN := Lib.hid hn
  have HE := Lib.hid he
  have HP := Lib.hid hp
  clear hn he hp
  unfold IdxPost
  go_enter Try.func36, Try.ntmps36
  go_wp2
  go_loopw [8] (fun i wr => ∃ k : Nat, k ≤ n ∧ i = .int .i64 k ∧ Hid (∀ j (hj : j < l.length), j < k → p l[j] = false) ∧ Hid (Below w.heap.size w wr)) (fun i _ => n - (intOf i).toNat)
  case atStart => exact ⟨0, Nat.zero_le _, rfl, Lib.hid (fun j _ h => by omega), Lib.hid (Below.refl _ _)⟩
  case round =>
    obtain ⟨k, hk, rfl, HF, HB⟩ := hrel
    by_cases hlt : k < n
    · have hkl : (k : Int) < (n : Int) := by omega
      have hkx : k < l.length := by have := HN.out; omega
      obtain ⟨b, o, rfl, hb, c0, c1, c2, c3, c4⟩ := (HE.out.on HB.out).cells k hkx
      have HC := Lib.hid (HP.out wr HB.out _ (List.getElem_mem hkx))
      have HS : Hid (p l[k] = false → ∀ j (hj : j < l.length), j < k + 1 → p l[j] = false) := Lib.hid (fun h j hj hjk => by
        by_cases e : j = k
        · subst e; exact h
        · exact HF.out j hj (by omega))
      have HT : Hid (p l[k] = true → idxP l p k) := Lib.hid (fun h => ⟨hkx, fun j hj hjk => HF.out j hj hjk, fun _ => h⟩)
      generalize p l[k] = q at *
      generalize l[k] = x at *
      obtain ⟨kx, tx, ox, vx, ux⟩ := x
      dsimp only at c0 c1 c2 c3 c4 HC
      clear hb hkx HF
      cases q with
      | true =>
        go_wp2_with (go_at_fn g; refine HC.out.mono ?_; rintro e w2 ⟨rfl, q2⟩; refine Hid.out ?_)
        refine Lib.hid ?_
        have HQ := Lib.hid (And.intro (HT.out (by simp)) (HB.out.trans (q2.mono HB.out.size)))
        clear q2 c0 c1 c2 c3 c4 HC HS HT HB
        go_wp2
        go_ret
        exact ⟨.inl ⟨k, rfl, HQ.out.1⟩, HQ.out.2⟩
      | false =>
        go_wp2_with (go_at_fn g; refine HC.out.mono ?_; rintro e w2 ⟨rfl, q2⟩; refine Hid.out ?_)
        refine Lib.hid ?_
        have HQ := Lib.hid (HB.out.trans (q2.mono HB.out.size))
        have HS2 := Lib.hid (HS.out (by simp))
        clear q2 c0 c1 c2 c3 c4 HC HS HT HB
        go_wp2
        go_roundw
        case rel => exact ⟨k + 1, by omega, by go_num, HS2, HQ⟩
        case measure => simp [intOf]; omega
    · have hkl : ¬ (k : Int) < (n : Int) := by omega
      have HQ : Hid ((∀ x ∈ l, p x = false) ∧ Below w.heap.size w wr) := Lib.hid ⟨fun x hx => by
        obtain ⟨j, hj, rfl⟩ := List.getElem_of_mem hx
        exact HF.out j hj (by have := HN.out; omega), HB.out⟩
      clear HF HB
      go_wp2
      go_ret
      exact ⟨.inr ⟨rfl, HQ.out.1⟩, HQ.out.2⟩

end Go.Proofs.Ytkbonifbnbdbkab
