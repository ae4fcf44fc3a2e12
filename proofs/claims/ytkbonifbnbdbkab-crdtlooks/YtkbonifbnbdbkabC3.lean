/-
  What Merge of package crdt does; a map of entries, plainly.
-/
import Derived.Test.YtkbonifbnbdbkabC2
import Derived.Test.YtkbonifbnbdbkabEOpen
namespace Go.Proofs.Ytkbonifbnbdbkab
open Go.RowKit Go.Maps

theorem EntsAt.below {w w' : World} {a : Option Addr} {l : List Ent} {B : Nat} (h : EntsAt w a l) (hb : Below B w w') (hB : w.heap.size ≤ B) : EntsAt w' a l := fun hn => by
  obtain ⟨b, o, rfl, hlt, hc⟩ := h hn
  have hb' := hb.block b (Nat.lt_of_lt_of_le hlt hB)
  refine ⟨b, o, rfl, Nat.lt_of_lt_of_le hlt (hb.mono hB).size, fun i hi j v hv => ?_⟩
  rw [World.cell?_of_block (a := ⟨b, o + i * 5 + j, none⟩) hb']
  exact hc i hi j v hv
theorem EntsAt.on {w w' : World} {a : Option Addr} {l : List Ent} (h : EntsAt w a l) (hb : Below w.heap.size w w') : EntsAt w' a l := h.below hb (Nat.le_refl _)
theorem EntsAt.turn {w w' : World} {a : Option Addr} {l : List Ent} {bm : Nat} {S : List Ent} (h : EntsAt w a l) (hg : w.grownBy w' (some bm)) (hm : CMap w bm S) : EntsAt w' a l := fun hn => by
  obtain ⟨b, o, rfl, hlt, hc⟩ := h hn
  have h1 := hc 0 hn 0 (.string l[0].k) rfl
  have hne : b ≠ bm := fun e => by
    obtain ⟨es, clock, hb, -⟩ := hm
    subst e
    simp [World.cell?, hb] at h1
  have e := hg.block b hlt (fun e => hne (Option.some.inj e))
  refine ⟨b, o, rfl, Nat.lt_of_lt_of_le hlt hg.size, fun i hi j v hv => ?_⟩
  rw [World.cell?_of_block (a := ⟨b, o + i * 5 + j, none⟩) e]
  exact hc i hi j v hv
theorem EntsAt.cells {w : World} {a : Option Addr} {l : List Ent} (h : EntsAt w a l) (k : Nat) (hk : k < l.length) : ∃ b o, a = some ⟨b, o, none⟩ ∧ b < w.heap.size ∧
    w.cell? ⟨b, o + k * 5, none⟩ = some (.string l[k].k) ∧ w.cell? ⟨b, o + k * 5 + 1, none⟩ = some (.int .i64 l[k].t) ∧ w.cell? ⟨b, o + k * 5 + 2, none⟩ = some (.int .u16 l[k].o) ∧ w.cell? ⟨b, o + k * 5 + 3, none⟩ = some (.string l[k].v) ∧ w.cell? ⟨b, o + k * 5 + 4, none⟩ = some (.int .i64 l[k].u) := by
  obtain ⟨b, o, rfl, hlt, hc⟩ := h (by omega)
  exact ⟨b, o, rfl, hlt, hc k hk 0 _ rfl, hc k hk 1 _ rfl, hc k hk 2 _ rfl, hc k hk 3 _ rfl, hc k hk 4 _ rfl⟩

/-- Entries, one behind the other. -/
def mergeS (S : List Ent) (l : List Ent) : List Ent := l.foldl cputS S
/-- How many of them make it another one. -/
def mergeN : List Ent → List Ent → Nat
  | _, [] => 0
  | S, x :: l => (if cputB S x then 1 else 0) + mergeN (cputS S x) l
theorem mergeS_succ (S : List Ent) (l : List Ent) (k : Nat) (hk : k < l.length) : mergeS S (l.take (k + 1)) = cputS (mergeS S (l.take k)) l[k] := by
  unfold mergeS
  rw [List.take_succ_eq_append_getElem hk, List.foldl_append]
  rfl
theorem mergeN_append : ∀ (l m : List Ent) (S : List Ent), mergeN S (l ++ m) = mergeN S l + mergeN (mergeS S l) m
  | [], m, S => by simp [mergeN, mergeS]
  | x :: l, m, S => by
    rw [List.cons_append, mergeN, mergeN, mergeN_append l m]
    show _ = _ + mergeN (mergeS (cputS S x) l) m
    omega
theorem mergeN_succ (S : List Ent) (l : List Ent) (k : Nat) (hk : k < l.length) : mergeN S (l.take (k + 1)) = mergeN S (l.take k) + (if cputB (mergeS S (l.take k)) l[k] then 1 else 0) := by
  rw [List.take_succ_eq_append_getElem hk, mergeN_append]
  simp [mergeN]
theorem mergeN_le : ∀ (l : List Ent) (S : List Ent), mergeN S l ≤ l.length
  | [], _ => Nat.le_refl _
  | x :: l, S => by
    have := mergeN_le l (cputS S x)
    rw [mergeN, List.length_cons]
    split <;> omega

set_option maxRecDepth 100000 in
set_option maxHeartbeats 4000000 in
theorem cMerge_any (sb bm : Nat) (S : List Ent) (a : Option Addr) (c : Nat) (l : List Ent) (w : World) (h : CAt w sb bm S) (he : EntsAt w a l) (hl : l.length ≤ 9223372036854775807) (n : Nat) (hn : n = l.length) :
    Calls Try.prog 8 #[.pointer (some ⟨sb, 0, none⟩), .slice a n c] w fun e w' => e = .returned (.int .i64 (mergeN S l : Int)) ∧ CAt w' sb bm (mergeS S l) ∧ w.grownBy w' (some bm) := by
  have HN := Lib.hid hn
  have hn1 : n ≤ 9223372036854775807 := by omega
  have HH := Lib.hid (And.intro h he)
  clear hn h he hl
  go_enter Try.func8, Try.ntmps8
  go_wp2
  go_loopw [5, 12] (fun v i wr => ∃ (k m : Nat), k ≤ n ∧ m ≤ k ∧ i = .int .i64 k ∧ v = .int .i64 m ∧ Hid (m = mergeN S (l.take k) ∧ CAt wr sb bm (mergeS S (l.take k)) ∧ w.grownBy wr (some bm) ∧ EntsAt wr a l)) (fun _ i _ => n - (intOf i).toNat)
  case atStart => exact ⟨0, 0, Nat.zero_le _, Nat.le_refl _, rfl, rfl, Lib.hid ⟨by simp [mergeN], HH.out.1, World.grownBy.refl _ _, HH.out.2⟩⟩
  case round =>
    obtain ⟨k, m, hk, hm, rfl, rfl, HK⟩ := hrel
    by_cases hlt : k < n
    · have hkl : (k : Int) < (n : Int) := by omega
      have hkx : k < l.length := by have := HN.out; omega
      obtain ⟨e1, h1, g1, he1⟩ := HK.out
      obtain ⟨b, o, rfl, hb, c0, c1, c2, c3, c4⟩ := he1.cells k hkx
      have d2 := (Below.refl wr.heap.size wr).alloc (Nat.le_refl _) (.cells #[.string l[k].k, .int .i64 l[k].t, .int .u16 l[k].o, .string l[k].v, .int .i64 l[k].u] 36)
      have h2 := h1.on d2
      have he2 := he1.on d2
      have HP := Lib.hid (cPut_any sb bm _ l[k] _ h2)
      have g2 := g1.andThen (gOfC d2 none) (fun j hj => by cases hj)
      have eS := mergeS_succ S l k hkx
      have eN := mergeN_succ S l k hkx
      have HZ := Lib.hid (And.intro e1 (And.intro g2 (And.intro he2 (And.intro h2.2.1 (And.intro eS eN)))))
      generalize l[k] = x at *
      obtain ⟨kx, tx, ox, vx, ux⟩ := x
      dsimp only at c0 c1 c2 c3 c4 HP
      clear e1 h1 g1 he1 d2 h2 he2 g2 eS eN hb HK
      generalize hBB : cputB (mergeS S (l.take k)) ⟨kx, tx, ox, vx, ux⟩ = bb at *
      clear hBB
      cases bb with
      | true =>
        go_wp2_with (go_at_call 22; refine HP.out.mono ?_; rintro e w3 ⟨rfl, h3, g3⟩; refine Hid.out ?_)
        refine Lib.hid ?_
        obtain ⟨e1, g2, he2, hm2, eS, eN⟩ := HZ.out
        have HF : Hid (m + 1 = mergeN S (l.take (k + 1)) ∧ CAt w3 sb bm (mergeS S (l.take (k + 1))) ∧ w.grownBy w3 (some bm) ∧ EntsAt w3 (some ⟨b, o, none⟩) l) := Lib.hid ⟨by rw [eN, e1]; rfl, by rw [eS]; exact h3, g2.andThen g3 (fun j hj => by cases hj; exact Or.inr rfl), he2.turn g3 hm2⟩
        clear e1 g2 he2 hm2 eS eN h3 g3 HZ HP c0 c1 c2 c3 c4
        go_wp2
        go_roundw
        case rel => exact ⟨k + 1, m + 1, by omega, by omega, by go_num, by go_num, HF⟩
        case measure => simp [intOf]; omega
      | false =>
        go_wp2_with (go_at_call 22; refine HP.out.mono ?_; rintro e w3 ⟨rfl, h3, g3⟩; refine Hid.out ?_)
        refine Lib.hid ?_
        obtain ⟨e1, g2, he2, hm2, eS, eN⟩ := HZ.out
        have HF : Hid (m = mergeN S (l.take (k + 1)) ∧ CAt w3 sb bm (mergeS S (l.take (k + 1))) ∧ w.grownBy w3 (some bm) ∧ EntsAt w3 (some ⟨b, o, none⟩) l) := Lib.hid ⟨by rw [eN, e1]; rfl, by rw [eS]; exact h3, g2.andThen g3 (fun j hj => by cases hj; exact Or.inr rfl), he2.turn g3 hm2⟩
        clear e1 g2 he2 hm2 eS eN h3 g3 HZ HP c0 c1 c2 c3 c4
        go_wp2
        go_roundw
        case rel => exact ⟨k + 1, m, by omega, by omega, by go_num, rfl, HF⟩
        case measure => simp [intOf]; omega
    · have hkl : ¬ (k : Int) < (n : Int) := by omega
      have HF : Hid (m = mergeN S l ∧ CAt wr sb bm (mergeS S l) ∧ w.grownBy wr (some bm)) := Lib.hid (by
        have e : l.take k = l := List.take_of_length_le (by have := HN.out; omega)
        have := HK.out
        rw [e] at this
        exact ⟨this.1, this.2.1, this.2.2.1⟩)
      clear HK
      go_wp2
      go_ret
      exact ⟨by rw [← HF.out.1]; rfl, HF.out.2⟩

end Go.Proofs.Ytkbonifbnbdbkab
