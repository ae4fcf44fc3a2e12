/-
  Int of the reference's reader, walked. A block of two cells; bytes that lie below what turns. Calls of both readers, with an error or without, each in one contract.
-/
import Derived.Test.YtcngifkoopcmeaaGreatDoorK41
import Derived.Test.YtcngifkoopcmeaaGreatDoorK39
import Derived.Laws.Rows
import Derived.Test.YtcngifkoopcmeaaGreatDoorK19
namespace Go.Proofs.YtcngifkoopcmeaaGreatDoor
open Go.RowKit

/-- A number or none, with what is left: as the reader tells it. -/
abbrev refInts (w w' : World) (a0 : Option Addr) (r : Ending) (res : List UInt8 × Int × Int) : Prop :=
  (∃ a c, r = .returned (.tuple #[.agg #[.slice a res.1.length c, .int .i64 res.2.1], .int .i64 res.2.2]) ∧ SrcAt w' (.slice a res.1.length c) res.1 ∧ res.1.length ≤ c ∧ ∀ q, a = some q → ∃ q0, a0 = some q0 ∧ q.block = q0.block) ∧ Below w.heap.size w w'

theorem refrInt_err (a : Option Addr) (n c : Nat) (e : Int) (w : World) (he : (e != 0) = true) :
    Calls Tryz.prog 79 #[.agg #[.slice a n c, .int .i64 e]] w fun r w' => r = .returned (.tuple #[.agg #[.slice a n c, .int .i64 e], .int .i64 0]) ∧ Below w.heap.size w w' := by
  go_enter Tryz.func79, Tryz.ntmps79
  go_wp2
  exact bodyPost_ret (v := .tuple #[.agg #[.slice a n c, .int .i64 e], .int .i64 0]) (by simp [results, Tryz.results79, go_sem]) rfl ⟨rfl, ((Below.refl _ _).alloc (Nat.le_refl _) _).alloc (by simp) _⟩

set_option maxHeartbeats 1000000 in
theorem refrInt_end (a : Option Addr) (c : Nat) (w : World) :
    Calls Tryz.prog 79 #[.agg #[.slice a 0 c, .int .i64 0]] w fun r w' => r = .returned (.tuple #[.agg #[.slice none 0 0, .int .i64 3], .int .i64 0]) ∧ Below w.heap.size w w' := by
  go_enter Tryz.func79, Tryz.ntmps79
  go_wp2_with (first
    | (go_at_call 125; refine (stop_any 3 _).mono ?_; rintro r w1 ⟨rfl, hb1⟩; refine Hid.out ?_))
  refine Lib.hid ?_
  have hb := hb1
  simp only [World.size_alloc] at hb
  obtain ⟨hcl, hfz⟩ := bcell hb1
  have hsz := hb1.size
  simp only [World.size_alloc] at hsz hcl hfz
  clear hb1
  go_wp2
  have hB : Below w.heap.size w w1 := ((((Below.refl w.heap.size w).alloc (Nat.le_refl _) _).alloc (by simp) _).trans (hb.mono (by omega)))
  exact bodyPost_ret (v := .tuple #[.agg #[.slice none 0 0, .int .i64 3], .int .i64 0]) (by simp [results, Tryz.results79, go_sem, hcl]) rfl ⟨rfl, (hB.setCell (by simp) _).setCell (by simp) _⟩

set_option maxHeartbeats 1000000 in
theorem refrInt_other (b o n c : Nat) (x : Int) (w : World) (hn : 1 ≤ n) (hx : w.cell? ⟨b, o, none⟩ = some (.int .u8 x)) (h1 : (x != 105) = true) :
    Calls Tryz.prog 79 #[.agg #[.slice (some ⟨b, o, none⟩) n c, .int .i64 0]] w fun r w' => r = .returned (.tuple #[.agg #[.slice none 0 0, .int .i64 4], .int .i64 0]) ∧ Below w.heap.size w w' := by
  have hbl : b < w.heap.size := World.block_lt_of_cell? w ⟨b, o, none⟩ hx
  have hx1 : ∀ o1 o2, ((w.alloc o1).alloc o2).cell? ⟨b, o, none⟩ = some (.int .u8 x) := fun o1 o2 => by
    rw [(((Below.refl w.heap.size w).alloc (Nat.le_refl _) o1).alloc (by simp) o2).cell (p := ⟨b, o, none⟩) hbl]; exact hx
  have hnz : ((n : Int) == 0) = false := by rw [beq_eq_false_iff_ne]; omega
  go_enter Tryz.func79, Tryz.ntmps79
  go_wp2_with (first
    | (go_at_call 125; refine (stop_any 4 _).mono ?_; rintro r w1 ⟨rfl, hb1⟩; refine Hid.out ?_))
  refine Lib.hid ?_
  have hb := hb1
  simp only [World.size_alloc] at hb
  obtain ⟨hcl, hfz⟩ := bcell hb1
  have hsz := hb1.size
  simp only [World.size_alloc] at hsz hcl hfz
  clear hb1
  go_wp2
  have hB : Below w.heap.size w w1 := ((((Below.refl w.heap.size w).alloc (Nat.le_refl _) _).alloc (by simp) _).trans (hb.mono (by omega)))
  exact bodyPost_ret (v := .tuple #[.agg #[.slice none 0 0, .int .i64 4], .int .i64 0]) (by simp [results, Tryz.results79, go_sem, hcl]) rfl ⟨rfl, (hB.setCell (by simp) _).setCell (by simp) _⟩

set_option maxHeartbeats 1000000 in
theorem refrInt_row (b o n c : Nat) (x : Int) (w : World) (hn : 1 ≤ n) (hx : w.cell? ⟨b, o, none⟩ = some (.int .u8 x)) (h1 : (x != 105) = false) (a3 : Option Addr) (n3 c3 : Nat) (hs3 : ∀ W, (Instr.slice 111 (.slice (some ⟨b, o, none⟩) n c) (some (.int .i64 1)) none none).run Tryz.prog W = .ok (.slice a3 n3 c3) W) (E : Int) (hE : (E != 0) = true) (U : ∀ o1 o2, Calls Tryz.prog 126 #[.slice a3 n3 c3, .int .u8 101, .int .i64 20] ((w.alloc o1).alloc o2) fun r w' => r = .returned (.tuple #[.string ⟨#[]⟩, .int .i64 E]) ∧ w' = (w.alloc o1).alloc o2) :
    Calls Tryz.prog 79 #[.agg #[.slice (some ⟨b, o, none⟩) n c, .int .i64 0]] w fun r w' => r = .returned (.tuple #[.agg #[.slice none 0 0, .int .i64 E], .int .i64 0]) ∧ Below w.heap.size w w' := by
  have hbl : b < w.heap.size := World.block_lt_of_cell? w ⟨b, o, none⟩ hx
  have hx1 : ∀ o1 o2, ((w.alloc o1).alloc o2).cell? ⟨b, o, none⟩ = some (.int .u8 x) := fun o1 o2 => by
    rw [(((Below.refl w.heap.size w).alloc (Nat.le_refl _) o1).alloc (by simp) o2).cell (p := ⟨b, o, none⟩) hbl]; exact hx
  have hnz : ((n : Int) == 0) = false := by rw [beq_eq_false_iff_ne]; omega
  have HU := Lib.hid U
  clear U
  go_enter Tryz.func79, Tryz.ntmps79
  go_wp2_with (first
    | (go_at_call 126; refine (HU.out _ _).mono ?_; rintro r w0 ⟨rfl, rfl⟩)
    | (go_at_call 125; refine (stop_any E _).mono ?_; rintro r w1 ⟨rfl, hb1⟩; refine Hid.out ?_))
  refine Lib.hid ?_
  have hb := hb1
  simp only [World.size_alloc] at hb
  obtain ⟨hcl, hfz⟩ := bcell hb1
  have hsz := hb1.size
  simp only [World.size_alloc] at hsz hcl hfz
  clear hb1
  go_wp2
  have hB : Below w.heap.size w w1 := ((((Below.refl w.heap.size w).alloc (Nat.le_refl _) _).alloc (by simp) _).trans (hb.mono (by omega)))
  exact bodyPost_ret (v := .tuple #[.agg #[.slice none 0 0, .int .i64 E], .int .i64 0]) (by simp [results, Tryz.results79, go_sem, hcl]) rfl ⟨rfl, (hB.setCell (by simp) _).setCell (by simp) _⟩

set_option maxHeartbeats 1000000 in
theorem refrInt_bad (b o n c : Nat) (x : Int) (w : World) (hn : 1 ≤ n) (hx : w.cell? ⟨b, o, none⟩ = some (.int .u8 x)) (h1 : (x != 105) = false) (a3 : Option Addr) (n3 c3 : Nat) (hs3 : ∀ W, (Instr.slice 111 (.slice (some ⟨b, o, none⟩) n c) (some (.int .i64 1)) none none).run Tryz.prog W = .ok (.slice a3 n3 c3) W) (st : ByteArray) (U : ∀ o1 o2, Calls Tryz.prog 126 #[.slice a3 n3 c3, .int .u8 101, .int .i64 20] ((w.alloc o1).alloc o2) fun r w' => r = .returned (.tuple #[.string st, .int .i64 0]) ∧ w' = (w.alloc o1).alloc o2) (N : ∀ W, Calls Tryz.prog 127 #[.string st] W fun r w' => (∃ y : Int, r = .returned (.tuple #[.int .i64 y, .bool false])) ∧ w' = W) :
    Calls Tryz.prog 79 #[.agg #[.slice (some ⟨b, o, none⟩) n c, .int .i64 0]] w fun r w' => r = .returned (.tuple #[.agg #[.slice none 0 0, .int .i64 4], .int .i64 0]) ∧ Below w.heap.size w w' := by
  have hbl : b < w.heap.size := World.block_lt_of_cell? w ⟨b, o, none⟩ hx
  have hx1 : ∀ o1 o2, ((w.alloc o1).alloc o2).cell? ⟨b, o, none⟩ = some (.int .u8 x) := fun o1 o2 => by
    rw [(((Below.refl w.heap.size w).alloc (Nat.le_refl _) o1).alloc (by simp) o2).cell (p := ⟨b, o, none⟩) hbl]; exact hx
  have hnz : ((n : Int) == 0) = false := by rw [beq_eq_false_iff_ne]; omega
  have HU := Lib.hid U
  have HN := Lib.hid N
  clear U N
  go_enter Tryz.func79, Tryz.ntmps79
  go_wp2_with (first
    | (go_at_call 126; refine (HU.out _ _).mono ?_; rintro r w0 ⟨rfl, rfl⟩)
    | (go_at_call 127; refine (HN.out _).mono ?_; rintro r w0 ⟨⟨y, rfl⟩, rfl⟩)
    | (go_at_call 125; refine (stop_any 4 _).mono ?_; rintro r w1 ⟨rfl, hb1⟩; refine Hid.out ?_))
  refine Lib.hid ?_
  have hb := hb1
  simp only [World.size_alloc] at hb
  obtain ⟨hcl, hfz⟩ := bcell hb1
  have hsz := hb1.size
  simp only [World.size_alloc] at hsz hcl hfz
  clear hb1
  go_wp2
  have hB : Below w.heap.size w w1 := ((((Below.refl w.heap.size w).alloc (Nat.le_refl _) _).alloc (by simp) _).trans (hb.mono (by omega)))
  exact bodyPost_ret (v := .tuple #[.agg #[.slice none 0 0, .int .i64 4], .int .i64 0]) (by simp [results, Tryz.results79, go_sem, hcl]) rfl ⟨rfl, (hB.setCell (by simp) _).setCell (by simp) _⟩

set_option maxHeartbeats 2000000 in
set_option maxRecDepth 100000 in
theorem refrInt_ok (b o n c : Nat) (x : Int) (w : World) (hn : 1 ≤ n) (hx : w.cell? ⟨b, o, none⟩ = some (.int .u8 x)) (h1 : (x != 105) = false) (a3 : Option Addr) (n3 c3 : Nat) (hs3 : ∀ W, (Instr.slice 111 (.slice (some ⟨b, o, none⟩) n c) (some (.int .i64 1)) none none).run Tryz.prog W = .ok (.slice a3 n3 c3) W) (st : ByteArray) (k : Nat) (hst : st.size = k) (hk : k ≤ 20) (U : ∀ o1 o2, Calls Tryz.prog 126 #[.slice a3 n3 c3, .int .u8 101, .int .i64 20] ((w.alloc o1).alloc o2) fun r w' => r = .returned (.tuple #[.string st, .int .i64 0]) ∧ w' = (w.alloc o1).alloc o2) (v : Int) (N : ∀ W, Calls Tryz.prog 127 #[.string st] W fun r w' => r = .returned (.tuple #[.int .i64 v, .bool true]) ∧ w' = W)
    (a4 : Option Addr) (n4 c4 : Nat) (hs4 : ∀ W, (Instr.slice 111 (.slice (some ⟨b, o, none⟩) n c) (some (.int .i64 ((k : Int) + 2))) none none).run Tryz.prog W = .ok (.slice a4 n4 c4) W) :
    Calls Tryz.prog 79 #[.agg #[.slice (some ⟨b, o, none⟩) n c, .int .i64 0]] w fun r w' => r = .returned (.tuple #[.agg #[.slice a4 n4 c4, .int .i64 0], .int .i64 v]) ∧ Below w.heap.size w w' := by
  have hbl : b < w.heap.size := World.block_lt_of_cell? w ⟨b, o, none⟩ hx
  have hx1 : ∀ o1 o2, ((w.alloc o1).alloc o2).cell? ⟨b, o, none⟩ = some (.int .u8 x) := fun o1 o2 => by
    rw [(((Below.refl w.heap.size w).alloc (Nat.le_refl _) o1).alloc (by simp) o2).cell (p := ⟨b, o, none⟩) hbl]; exact hx
  have hnz : ((n : Int) == 0) = false := by rw [beq_eq_false_iff_ne]; omega
  have HU := Lib.hid U
  have HN := Lib.hid N
  clear U N
  go_enter Tryz.func79, Tryz.ntmps79
  go_wp2_with (first
    | (go_at_call 126; refine (HU.out _ _).mono ?_; rintro r w0 ⟨rfl, rfl⟩)
    | (go_at_call 127; refine (HN.out _).mono ?_; rintro r w0 ⟨rfl, rfl⟩))
  exact bodyPost_ret (v := .tuple #[.agg #[.slice a4 n4 c4, .int .i64 0], .int .i64 v]) (by simp [results, Tryz.results79, go_sem]) rfl ⟨rfl, by repeat (first | exact Below.refl _ _ | refine Below.setCell ?_ (by simp) _ | refine Below.drew ?_ | refine Below.alloc ?_ (by simp) _)⟩

theorem ints_stop {w w' : World} {r : Ending} {E : Int} (h : r = .returned (.tuple #[.agg #[.slice none 0 0, .int .i64 E], .int .i64 0]) ∧ Below w.heap.size w w') {res : List UInt8 × Int × Int} {a0 : Option Addr} (e : res = ([], E, 0)) : refInts w w' a0 r res := by
  subst e
  exact ⟨⟨none, 0, h.1, .inl ⟨rfl, rfl⟩, Nat.le_refl _, fun q hq => by cases hq⟩, h.2⟩

set_option maxHeartbeats 1000000 in
theorem refrInt_any (a : Option Addr) (c : Nat) (l : List UInt8) (w : World) (h : SrcAt w (.slice a l.length c) l) (hc : l.length ≤ c) (hlb : l.length ≤ 140737488355328) :
    Calls Tryz.prog 79 #[.agg #[.slice a l.length c, .int .i64 0]] w fun r w' => refInts w w' a r (rdInt l) := by
  cases l with
  | nil => exact (refrInt_end a c w).mono fun r w' hr => ints_stop hr rfl
  | cons x l =>
    have hsrc := h
    rcases h with ⟨_, h0⟩ | ⟨q, c', e, hcell⟩
    · cases h0
    simp only [Value.slice.injEq] at e
    obtain ⟨rfl, -, rfl⟩ := e
    have h0 := hcell 0 (by simp)
    obtain ⟨b, o, s⟩ := q
    obtain rfl : s = none := by simpa [Addr.add] using World.cell?_spot h0
    rw [Go.WideShapes.add_plain] at h0
    simp only [Nat.add_zero, List.getElem_cons_zero] at h0
    simp only [rdInt]
    by_cases hx : x ≠ 105
    · rw [if_pos hx]
      exact (refrInt_other b o _ c x.toNat w (by simp) h0 (ne_byte (ch := 105) rfl hx)).mono fun r w' hr => ints_stop hr rfl
    rw [if_neg hx]
    obtain rfl : x = 105 := Classical.not_not.1 hx
    obtain ⟨a3, ha3⟩ : ∃ y, y = (if c = 1 then some (⟨b, o, none⟩ : Addr) else (some (⟨b, o, none⟩ : Addr)).map (·.add (1 * 1))) := ⟨_, rfl⟩
    have hs3 : ∀ W, (Instr.slice 111 (.slice (some ⟨b, o, none⟩) (105 :: l).length c) (some (.int .i64 1)) none none).run Tryz.prog W = .ok (.slice a3 l.length (c - 1)) W := fun W => by
      rw [ha3]
      exact slice_from (some ⟨b, o, none⟩) (105 :: l).length c 1 W (by simp)
    have hr3 := hsrc.rest hc 1 (by simp)
    rw [← ha3] at hr3
    simp only [List.length_cons, Nat.add_sub_cancel, List.drop_succ_cons, List.drop_zero] at hr3 hc hlb
    have hu := fun o1 o2 => until_any a3 (c - 1) l 101 20 ((w.alloc o1).alloc o2) (hr3.below (((Below.refl w.heap.size w).alloc (Nat.le_refl _) o1).alloc (by simp) o2) (Nat.le_refl _)) (by omega) (by omega) (by omega)
    by_cases hidx : Lib.indexByte (l.take 21) 101 = -1
    · rw [if_pos hidx]
      have hun := until_none (m := 20) hidx
      rw [hun] at hu
      by_cases hlong : 20 < l.length
      · rw [if_pos hlong]
        rw [if_pos hlong] at hu
        exact (refrInt_row b o _ c 105 w (by simp) h0 (by decide) a3 _ _ hs3 4 (by decide) (fun o1 o2 => hu o1 o2)).mono fun r w' hr => ints_stop hr rfl
      · rw [if_neg hlong]
        rw [if_neg hlong] at hu
        exact (refrInt_row b o _ c 105 w (by simp) h0 (by decide) a3 _ _ hs3 3 (by decide) (fun o1 o2 => hu o1 o2)).mono fun r w' hr => ints_stop hr rfl
    rw [if_neg hidx]
    obtain ⟨k, hk⟩ : ∃ k : Nat, Lib.indexByte (l.take 21) 101 = k := by
      have := Lib.indexByte_ge (l.take 21) 101
      exact ⟨(Lib.indexByte (l.take 21) 101).toNat, by omega⟩
    obtain ⟨hkl, hk20, -⟩ := hit_facts (m := 20) hk
    have hun := until_some (m := 20) hk
    rw [hun] at hu
    rw [hk, Int.toNat_natCast]
    have hst : (⟨(l.take k).toArray⟩ : ByteArray).size = k := by rw [size_str, List.length_take]; omega
    have htl : (l.take k).length ≤ 1000 := by rw [List.length_take]; omega
    cases hn : numOf (l.take k) with
    | none => exact (refrInt_bad b o _ c 105 w (by simp) h0 (by decide) a3 _ _ hs3 _ (fun o1 o2 => hu o1 o2) (fun W => refnumber_none _ W htl hn)).mono fun r w' hr => ints_stop hr rfl
    | some n =>
      simp only
      obtain ⟨a4, ha4⟩ : ∃ y, y = (if c = k + 2 then some (⟨b, o, none⟩ : Addr) else (some (⟨b, o, none⟩ : Addr)).map (·.add ((k + 2) * 1))) := ⟨_, rfl⟩
      have hs4 : ∀ W, (Instr.slice 111 (.slice (some ⟨b, o, none⟩) (105 :: l).length c) (some (.int .i64 ((k : Int) + 2))) none none).run Tryz.prog W = .ok (.slice a4 ((105 :: l).length - (k + 2)) (c - (k + 2))) W := fun W => by
        rw [ha4]
        exact slice_from (some ⟨b, o, none⟩) (105 :: l).length c (k + 2) W (by simp; omega)
      have hr4 := hsrc.rest (by simpa using hc) (k + 2) (by simp; omega)
      rw [← ha4] at hr4
      have hdl : ((105 :: l).drop (k + 2)) = l.drop (k + 1) := rfl
      have hl4 : (l.drop (k + 1)).length = (105 :: l).length - (k + 2) := by simp
      rw [hdl] at hr4
      refine (refrInt_ok b o _ c 105 w (by simp) h0 (by decide) a3 _ _ hs3 _ k hst hk20 (fun o1 o2 => hu o1 o2) n (fun W => refnumber_some _ _ W htl hn) a4 _ _ hs4).mono fun r w' hr => ?_
      obtain ⟨he, hb⟩ := hr
      refine ⟨⟨a4, c - (k + 2), ?_, ?_, ?_, fun q hq => ⟨_, rfl, ?_⟩⟩, hb⟩
      · rw [he, hl4]
      · rw [hl4]
        exact hr4.below hb (Nat.le_refl _)
      · show (l.drop (k + 1)).length ≤ _
        rw [hl4]
        simp
        omega
      · rw [ha4] at hq
        split at hq
        · obtain rfl := Option.some.inj hq
          rfl
        · simp only [Option.map_some, Option.some.injEq] at hq
          rw [← hq, add_block]

end Go.Proofs.YtcngifkoopcmeaaGreatDoor
namespace Go.Proofs.YtcngifkoopcmeaaGreatDoor
open Go.RowKit

/-- A block of two cells. -/
def Two (w : World) (b : Nat) (t : TypeId) (x y : Value) : Prop := w.heap[b]? = some (.cells #[x, y] t (0, 0))
theorem Two.c0 {w : World} {b : Nat} {t : TypeId} {x y : Value} (h : Two w b t x y) : w.cell? ⟨b, 0, none⟩ = some x := by rw [cell_of_row _ _ _ _ _ _ h]; rfl
theorem Two.c1 {w : World} {b : Nat} {t : TypeId} {x y : Value} (h : Two w b t x y) : w.cell? ⟨b, 1, none⟩ = some y := by rw [cell_of_row _ _ _ _ _ _ h]; rfl
theorem Two.fr {w : World} {b : Nat} {t : TypeId} {x y : Value} (h : Two w b t x y) (i : Nat) : w.frozen? ⟨b, i, none⟩ = false := frozen_of_row _ _ _ _ _ h
theorem Two.lt {w : World} {b : Nat} {t : TypeId} {x y : Value} (h : Two w b t x y) : b < w.heap.size := (Array.getElem?_eq_some_iff.1 h).1
theorem Two.set0 {w : World} {b : Nat} {t : TypeId} {x y : Value} (h : Two w b t x y) (v : Value) : Two (w.setCell ⟨b, 0, none⟩ v) b t v y := heap_setCell_same w b 0 _ t v h
theorem Two.set1 {w : World} {b : Nat} {t : TypeId} {x y : Value} (h : Two w b t x y) (v : Value) : Two (w.setCell ⟨b, 1, none⟩ v) b t x v := heap_setCell_same w b 1 _ t v h
theorem Two.far {w : World} {b : Nat} {t : TypeId} {x y : Value} (h : Two w b t x y) (p : Addr) (hp : b ≠ p.block) (v : Value) : Two (w.setCell p v) b t x y := (heap_setCell_other w p b v hp).trans h
theorem Two.below {w w' : World} {b B : Nat} {t : TypeId} {x y : Value} (h : Two w b t x y) (hb : Below B w w') (hB : b < B) : Two w' b t x y := (hb.block b hB).trans h
theorem Two.grown {w w' : World} {b : Nat} {t : TypeId} {x y : Value} {r : Option Nat} (h : Two w b t x y) (hg : w.grownBy w' r) (hr : some b ≠ r) : Two w' b t x y := (hg.block b h.lt hr).trans h
theorem Two.new (w : World) (t : TypeId) (x y : Value) : Two (w.alloc (.cells #[x, y] t)) w.heap.size t x y := heap_alloc_new _ _

theorem SrcAt.low {w w' : World} {a : Option Addr} {n c B : Nat} {l : List UInt8} (h : SrcAt w (.slice a n c) l) (hb : Below B w w') (hq : ∀ q, a = some q → q.block < B) : SrcAt w' (.slice a n c) l := by
  rcases h with h | ⟨q, c', e, hc⟩
  · exact .inl h
  · refine .inr ⟨q, c', e, fun i hi => ?_⟩
    have hq' : q.block < B := hq q (by simp only [Value.slice.injEq] at e; exact e.1)
    rw [hb.cell (p := q.add i) (by rw [add_block]; exact hq')]
    exact hc i hi

end Go.Proofs.YtcngifkoopcmeaaGreatDoor
namespace Go.Proofs.YtcngifkoopcmeaaGreatDoor
open Go.RowKit

/-- What is left of the reference's reader. -/
structure XS (w : World) (a : Option Addr) (c : Nat) (l : List UInt8) (e : Int) : Prop where
  src : SrcAt w (.slice a l.length c) l
  cap : l.length ≤ c
  lim : l.length ≤ 140737488355328
  err : e ≠ 0 → l = []

theorem refInt_full (a : Option Addr) (c : Nat) (l : List UInt8) (e : Int) (w : World) (h : XS w a c l e) {l1 : List UInt8} {e1 n : Int} (hT : intE e l = (l1, e1, n)) :
    Calls Tryz.prog 79 #[.agg #[.slice a l.length c, .int .i64 e]] w fun r w' => refInts w w' a r (l1, e1, n) := by
  by_cases h0 : e = 0
  · subst h0
    have := refrInt_any a c l w h.src h.cap h.lim
    rw [show rdInt l = (l1, e1, n) from hT] at this
    exact this
  · obtain rfl := h.err h0
    simp only [intE, if_neg h0, Prod.mk.injEq] at hT
    obtain ⟨rfl, rfl, rfl⟩ := hT
    exact (refrInt_err a 0 c e w (ne_bool h0)).mono fun r w' ⟨h1, h2⟩ => ⟨⟨a, c, h1, h.src.below h2 (Nat.le_refl _), Nat.zero_le _, fun q hq => ⟨q, hq, rfl⟩⟩, h2⟩
theorem refText_full (a : Option Addr) (c : Nat) (l : List UInt8) (e most : Int) (w : World) (h : XS w a c l e) {l1 s : List UInt8} {e1 : Int} (hT : textE most e l = (l1, e1, s)) :
    Calls Tryz.prog 78 #[.agg #[.slice a l.length c, .int .i64 e], .int .i64 most] w fun r w' => refTexts w w' a r (l1, e1, s) := by
  by_cases h0 : e = 0
  · subst h0
    have := refrText_any a c l most w h.src h.cap h.lim
    rw [show rdText most l = (l1, e1, s) from hT] at this
    exact this
  · obtain rfl := h.err h0
    simp only [textE, if_neg h0, Prod.mk.injEq] at hT
    obtain ⟨rfl, rfl, rfl⟩ := hT
    exact (refrText_err a 0 c e most w (ne_bool h0)).mono fun r w' ⟨h1, h2⟩ => ⟨⟨a, c, h1, h.src.below h2 (Nat.le_refl _), Nat.zero_le _, fun q hq => ⟨q, hq, rfl⟩⟩, h2⟩
theorem refByte_full (a : Option Addr) (c : Nat) (l : List UInt8) (ch : UInt8) (e : Int) (w : World) (h : XS w a c l e) {l1 : List UInt8} {e1 : Int} (hT : byteE ch e l = (l1, e1)) :
    Calls Tryz.prog 76 #[.agg #[.slice a l.length c, .int .i64 e], .int .u8 ch.toNat] w fun r w' =>
      (∃ a' c', r = .returned (.agg #[.slice a' l1.length c', .int .i64 e1]) ∧ SrcAt w' (.slice a' l1.length c') l1 ∧ l1.length ≤ c' ∧ ∀ q, a' = some q → ∃ q0, a = some q0 ∧ q.block = q0.block) ∧ Below w.heap.size w w' := by
  by_cases h0 : e = 0
  · subst h0
    have := refByte_any a c l ch w h.src h.cap
    rw [show rdByte ch l = (l1, e1) from hT] at this
    exact this
  · obtain rfl := h.err h0
    simp only [byteE, if_neg h0, Prod.mk.injEq] at hT
    obtain ⟨rfl, rfl⟩ := hT
    exact (refByte_err a 0 c e ch.toNat w (ne_bool h0)).mono fun r w' ⟨h1, h2⟩ => ⟨⟨a, c, h1, h.src.below h2 (Nat.le_refl _), Nat.zero_le _, fun q hq => ⟨q, hq, rfl⟩⟩, h2⟩

theorem XS.low {w w' : World} {a : Option Addr} {c : Nat} {l : List UInt8} {e : Int} {B : Nat} (h : XS w a c l e) (hb : Below B w w') (hq : ∀ q, a = some q → q.block < B) : XS w' a c l e := ⟨h.src.low hb hq, h.cap, h.lim, h.err⟩
theorem XS.below {w w' : World} {a : Option Addr} {c : Nat} {l : List UInt8} {e : Int} (h : XS w a c l e) (hb : Below w.heap.size w w') : XS w' a c l e := ⟨h.src.below hb (Nat.le_refl _), h.cap, h.lim, h.err⟩

end Go.Proofs.YtcngifkoopcmeaaGreatDoor
