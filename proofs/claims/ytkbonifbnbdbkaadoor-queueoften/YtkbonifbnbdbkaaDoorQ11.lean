/-
  Calls of a queue of the call's own; the closed case of layer 14.
-/
import Derived.Test.YtkbonifbnbdbkaaDoorQ10
namespace Go.Proofs.YtkbonifbnbdbkaaDoor
open Go.RowKit Go.Shelf

/-- A queue that was made since W, with all that it holds in blocks from B on. -/
def QW (B : Nat) (W w : World) (sb : Nat) (L : List Itm) (p l : Int) : Prop := B ≤ sb ∧ B ≤ W.heap.size ∧ Below B W w ∧ ∃ a c, QAt w B sb a c L p l
section
variable {B sb : Nat} {W w w' : World} {L : List Itm} {p l : Int}
theorem QW.on (h : QW B W w sb L p l) (q : Below w.heap.size w w') : QW B W w' sb L p l := by
  obtain ⟨h1, h2, h3, a, c, h4⟩ := h
  exact ⟨h1, h2, h3.trans (q.mono (Nat.le_trans h2 h3.size)), a, c, h4.on q⟩
theorem QW.drew (h : QW B W w sb L p l) : QW B W w.drew sb L p l := h.on (Below.refl _ _).drew
end
theorem qNew_any (B : Nat) (w : World) (hB : B ≤ w.heap.size) : Calls Tryd.prog 7 #[] w fun e w' => ∃ sb, e = .returned (.pointer (some ⟨sb, 0, none⟩)) ∧ QW B w w' sb [] 0 0 ∧ w.heap.size ≤ sb := by
  have d1 := (Below.refl w.heap.size w).alloc (Nat.le_refl _) (.cells #[.slice none 0 0, .int .i64 0, .int .i64 0] 55)
  have HF : Hid (QW B w (w.alloc (.cells #[.slice none 0 0, .int .i64 0, .int .i64 0] 55)) w.heap.size [] 0 0) := Lib.hid ⟨hB, hB, d1.mono hB, none, 0, QBlk.new w none 0 0 0 0, OwnI.nil _ _⟩
  clear d1 hB
  go_enter Tryd.func7, Tryd.ntmps7
  go_wp2
  go_ret
  exact ⟨_, rfl, HF.out, Nat.le_refl _⟩
theorem qLen_any (sb B c : Nat) (a : Option Addr) (L : List Itm) (p l : Int) (w : World) (h : QAt w B sb a c L p l) : Calls Tryd.prog 11 #[.pointer (some ⟨sb, 0, none⟩)] w fun e w' => e = .returned (.int .i64 (L.length : Int)) ∧ w' = w := by
  have c0 := h.1.c0
  clear h
  generalize L.length = n at *
  go_enter Tryd.func11, Tryd.ntmps11
  go_wp2
  go_ret
  exact ⟨rfl, rfl⟩
theorem qLost_any (sb B c : Nat) (a : Option Addr) (L : List Itm) (p l : Int) (w : World) (h : QAt w B sb a c L p l) : Calls Tryd.prog 12 #[.pointer (some ⟨sb, 0, none⟩)] w fun e w' => e = .returned (.int .i64 l) ∧ w' = w := by
  have c0 := h.1.c2
  clear h
  go_enter Tryd.func12, Tryd.ntmps12
  go_wp2
  go_ret
  exact ⟨rfl, rfl⟩
/-- An entry of a key. -/
def oneE (k : ByteArray) : Ent := ⟨k, 1, 0, ⟨#[]⟩, 5⟩
theorem qone_any (k : ByteArray) (w : World) : Calls Tryd.prog 9 #[.string k] w fun e w' => e = .returned (.agg #[.string k, .int .i64 1, .int .u16 0, .string ⟨#[]⟩, .int .i64 5]) ∧ Below w.heap.size w w' := by
  have b1 := EBlk.new w (oneE k)
  have d1 := (Below.refl w.heap.size w).alloc (Nat.le_refl _) (.cells #[.string k, .int .i64 1, .int .u16 0, .string ⟨#[]⟩, .int .i64 5] 27)
  have HB := Lib.hid (And.intro b1 d1)
  clear b1 d1
  go_enter Tryd.func9, Tryd.ntmps9
  go_wp2
  refine bodyPost_ret (v := .agg #[.string k, .int .i64 1, .int .u16 0, .string ⟨#[]⟩, .int .i64 5]) (by obtain ⟨b1, -⟩ := HB.out; have x0 := b1.c0; have x1 := b1.c1; have x2 := b1.c2; have x3 := b1.c3; have x4 := b1.c4; dsimp only [oneE] at x0 x1 x2 x3 x4; simp [results, Tryd.results9, go_sem, x0, x1, x2, x3, x4]) rfl ?_
  exact ⟨rfl, HB.out.2⟩
theorem qLimit_five (w : World) : Calls Tryd.prog 25 #[.int .i64 5] w fun e w' => e = .returned (.int .i64 9) ∧ w' = w := by
  have hb : Calls Tryd.prog 40 #[.int .u64 5] w fun e w' => e = .returned (.int .i64 3) ∧ w' = w := (Any.bits_Len Tryd.lBitsLen 5 w (by omega) (by omega)).mono fun e w' ⟨h1, h2⟩ => ⟨by rw [h1]; rfl, h2⟩
  have HB := Lib.hid hb
  clear hb
  go_enter Tryd.func25, Tryd.ntmps25
  go_wp2_with (go_at_call 40; refine HB.out.mono ?_; rintro e w1 ⟨rfl, rfl⟩)
  go_ret
  exact ⟨rfl, rfl⟩

/-- An entry that is not taken. -/
theorem pushB_no (B sb : Nat) (W : World) (L : List Itm) (p l : Int) (e : Ent) (w : World) (h : QW B W w sb L p l) (hL : L.length ≤ 1000) (hno : checkEn e ≠ 0 ∨ L.any (newsP e) = true) :
    Calls Tryd.prog 8 #[.pointer (some ⟨sb, 0, none⟩), .agg #[.string e.k, .int .i64 e.t, .int .u16 e.o, .string e.v, .int .i64 e.u]] w fun r w' => r = .returned (.bool false) ∧ QW B W w' sb L p l ∧ w.heap.size ≤ w'.heap.size := by
  obtain ⟨h1, h2, h3, a, c, h4⟩ := h
  exact (qPush_no sb B c a L p l e w h4 hL hno).mono fun r w' ⟨hr, q⟩ => ⟨hr, QW.on ⟨h1, h2, h3, a, c, h4⟩ q, q.size⟩
/-- One that is taken. -/
theorem pushB_yes (B sb : Nat) (W : World) (L : List Itm) (p l : Int) (e : Ent) (w : World) (h : QW B W w sb L p l) (hL : L.length ≤ 32) (hp : 0 ≤ p ∧ p ≤ 1000000) (hl : 0 ≤ l ∧ l ≤ 1000000) (hE : checkEn e = 0) (hnw : L.any (newsP e) = false) :
    Calls Tryd.prog 8 #[.pointer (some ⟨sb, 0, none⟩), .agg #[.string e.k, .int .i64 e.t, .int .u16 e.o, .string e.v, .int .i64 e.u]] w fun r w' => r = .returned (.bool true) ∧ (∃ L1 : List Itm, L1.Perm (L.filter (fun x => !sameK x.e e) ++ [⟨e, 0, p⟩]) ∧ L1.Pairwise (fun x y => ¬ lessQ y x) ∧ QW B W w' sb (L1.take 32) (p + 1) (l + (if 32 < L1.length then 1 else 0))) ∧ w.heap.size ≤ w'.heap.size := by
  obtain ⟨h1, h2, h3, a, c, h4⟩ := h
  refine (qPush_yes sb B c a L p l e w h4 (Nat.le_trans h2 h3.size) hL hp hl hE hnw).mono fun r w' ⟨hr, ⟨L1, k1, k2, a', ⟨c', k3⟩, k4⟩, t⟩ => ⟨hr, ⟨L1, k1, k2, h1, h2, ?_, a', c', k3⟩, t.size⟩
  exact h3.trans (t.below h1 (fun q e => (h4.has q e).1) (Nat.le_trans h2 h3.size))
theorem takeB (B sb : Nat) (W : World) (L : List Itm) (p l room limit : Int) (w : World) (h : QW B W w sb L p l) (B0 : Nat) (hB0 : B0 ≤ B) (hv : TabE B0 W) (hL : L.length ≤ 1000) (hg : ∀ x ∈ L, GoodI x) (hr : -9223372036854775808 ≤ room ∧ room ≤ 9223372036854775807) :
    Calls Tryd.prog 10 #[.pointer (some ⟨sb, 0, none⟩), .int .i64 room, .int .i64 limit] w fun e w' => (∃ a c, e = .returned (.slice a (takeQ room L).1.length c) ∧ EntsAt w' a (takeQ room L).1) ∧ (∃ L1 : List Itm, L1.Perm ((takeQ room L).2.filter fun x => decide (x.s < limit)) ∧ L1.Pairwise (fun x y => ¬ lessQ y x) ∧ QW B W w' sb L1 p l) ∧ w.heap.size ≤ w'.heap.size := by
  obtain ⟨h1, h2, h3, a, c, h4⟩ := h
  refine (qTake_any sb B c a L p l room limit B0 w h4 (Nat.le_trans hB0 (Nat.le_trans h2 h3.size)) (Nat.le_trans hB0 h1) hB0 (hv.on (h3.mono hB0)) hL hg hr).mono fun e w' ⟨⟨v, he, ho⟩, ⟨L1, k1, k2, c', k3⟩, t⟩ => ?_
  obtain ⟨a', c2, rfl, -, -, hat⟩ := ho.form
  exact ⟨⟨a', c2, he, hat⟩, ⟨L1, k1, k2, h1, h2, h3.trans (t.below h1 (fun q e => (h4.has q e).1) (Nat.le_trans h2 h3.size)), a, c', k3⟩, t.size⟩
theorem lenB (B sb : Nat) (W : World) (L : List Itm) (p l : Int) (w : World) (h : QW B W w sb L p l) : Calls Tryd.prog 11 #[.pointer (some ⟨sb, 0, none⟩)] w fun e w' => e = .returned (.int .i64 (L.length : Int)) ∧ w' = w := by
  obtain ⟨-, -, -, a, c, h4⟩ := h
  exact qLen_any sb B c a L p l w h4
theorem lostB (B sb : Nat) (W : World) (L : List Itm) (p l : Int) (w : World) (h : QW B W w sb L p l) : Calls Tryd.prog 12 #[.pointer (some ⟨sb, 0, none⟩)] w fun e w' => e = .returned (.int .i64 l) ∧ w' = w := by
  obtain ⟨-, -, -, a, c, h4⟩ := h
  exact qLost_any sb B c a L p l w h4

end Go.Proofs.YtkbonifbnbdbkaaDoor
