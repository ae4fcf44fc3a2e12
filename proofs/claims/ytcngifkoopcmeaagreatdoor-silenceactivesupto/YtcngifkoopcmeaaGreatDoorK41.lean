/-
  Text of the reference's reader, walked: what it tells is what the reader of the program tells. Text and Byte of the reference's reader, each in one contract: what the program's reader tells.
-/
import Derived.Test.YtcngifkoopcmeaaGreatDoorK40
import Derived.Deep.RegionHeld3
namespace Go.Proofs.YtcngifkoopcmeaaGreatDoor
open Go.RowKit

theorem until_some {l : List UInt8} {ch : UInt8} {m k : Nat} (h : Lib.indexByte (l.take (m + 1)) ch = k) : untilOf l ch m = (l.take k, 0) := by
  unfold untilOf
  rw [if_neg (by omega), h, Int.toNat_natCast]
theorem until_none {l : List UInt8} {ch : UInt8} {m : Nat} (h : Lib.indexByte (l.take (m + 1)) ch = -1) : untilOf l ch m = ([], if m < l.length then 4 else 3) := by
  unfold untilOf
  rw [if_pos h]

/-- A text or none, with what is left: as the reader tells it. -/
abbrev refTexts (w w' : World) (a0 : Option Addr) (r : Ending) (res : List UInt8 × Int × List UInt8) : Prop :=
  (∃ a c, r = .returned (.tuple #[.agg #[.slice a res.1.length c, .int .i64 res.2.1], .string ⟨res.2.2.toArray⟩]) ∧ SrcAt w' (.slice a res.1.length c) res.1 ∧ res.1.length ≤ c ∧ ∀ q, a = some q → ∃ q0, a0 = some q0 ∧ q.block = q0.block) ∧ Below w.heap.size w w'

theorem refrText_err (a : Option Addr) (n c : Nat) (e most : Int) (w : World) (he : (e != 0) = true) :
    Calls Tryz.prog 78 #[.agg #[.slice a n c, .int .i64 e], .int .i64 most] w fun r w' => r = .returned (.tuple #[.agg #[.slice a n c, .int .i64 e], .string ⟨#[]⟩]) ∧ Below w.heap.size w w' := by
  go_enter Tryz.func78, Tryz.ntmps78
  go_wp2
  exact bodyPost_ret (v := .tuple #[.agg #[.slice a n c, .int .i64 e], .string ⟨#[]⟩]) (by simp [results, Tryz.results78, go_sem]) rfl ⟨rfl, ((Below.refl _ _).alloc (Nat.le_refl _) _).alloc (by simp) _⟩

set_option maxHeartbeats 1000000 in
theorem refrText_end (a : Option Addr) (c : Nat) (most : Int) (w : World) :
    Calls Tryz.prog 78 #[.agg #[.slice a 0 c, .int .i64 0], .int .i64 most] w fun r w' => r = .returned (.tuple #[.agg #[.slice none 0 0, .int .i64 3], .string ⟨#[]⟩]) ∧ Below w.heap.size w w' := by
  go_enter Tryz.func78, Tryz.ntmps78
  go_wp2_with (first
    | (go_at_call 125; refine (stop_any 3 _).mono ?_; rintro r w1 ⟨rfl, hb1⟩; refine Hid.out ?_))
  refine Lib.hid ?_
  have hb := hb1
  simp only [World.size_alloc] at hb
  obtain ⟨hcl, hfz⟩ := bcell hb1
  have hsz := hb1.size
  simp only [World.size_alloc] at hsz hcl hfz
  clear hb1
  go_wp2
  have hB : Below w.heap.size w w1 := ((((Below.refl w.heap.size w).alloc (Nat.le_refl _) _).alloc (by simp) _).trans (hb.mono (by omega)))
  exact bodyPost_ret (v := .tuple #[.agg #[.slice none 0 0, .int .i64 3], .string ⟨#[]⟩]) (by simp [results, Tryz.results78, go_sem, hcl]) rfl ⟨rfl, (hB.setCell (by simp) _).setCell (by simp) _⟩

set_option maxHeartbeats 1000000 in
theorem refrText_low (b o n c : Nat) (x most : Int) (w : World) (hn : 1 ≤ n) (hx : w.cell? ⟨b, o, none⟩ = some (.int .u8 x)) (h1 : x < 48) :
    Calls Tryz.prog 78 #[.agg #[.slice (some ⟨b, o, none⟩) n c, .int .i64 0], .int .i64 most] w fun r w' => r = .returned (.tuple #[.agg #[.slice none 0 0, .int .i64 4], .string ⟨#[]⟩]) ∧ Below w.heap.size w w' := by
  have hbl : b < w.heap.size := World.block_lt_of_cell? w ⟨b, o, none⟩ hx
  have hx1 : ∀ o1 o2, ((w.alloc o1).alloc o2).cell? ⟨b, o, none⟩ = some (.int .u8 x) := fun o1 o2 => by
    rw [(((Below.refl w.heap.size w).alloc (Nat.le_refl _) o1).alloc (by simp) o2).cell (p := ⟨b, o, none⟩) hbl]; exact hx
  have hnz : ((n : Int) == 0) = false := by rw [beq_eq_false_iff_ne]; omega
  go_enter Tryz.func78, Tryz.ntmps78
  go_wp2_with (first
    | (go_at_call 125; refine (stop_any 4 _).mono ?_; rintro r w1 ⟨rfl, hb1⟩; refine Hid.out ?_))
  refine Lib.hid ?_
  have hb := hb1
  simp only [World.size_alloc] at hb
  obtain ⟨hcl, hfz⟩ := bcell hb1
  have hsz := hb1.size
  simp only [World.size_alloc] at hsz hcl hfz
  clear hb1
  go_wp2
  have hB : Below w.heap.size w w1 := ((((Below.refl w.heap.size w).alloc (Nat.le_refl _) _).alloc (by simp) _).trans (hb.mono (by omega)))
  exact bodyPost_ret (v := .tuple #[.agg #[.slice none 0 0, .int .i64 4], .string ⟨#[]⟩]) (by simp [results, Tryz.results78, go_sem, hcl]) rfl ⟨rfl, (hB.setCell (by simp) _).setCell (by simp) _⟩

set_option maxHeartbeats 1000000 in
theorem refrText_high (b o n c : Nat) (x most : Int) (w : World) (hn : 1 ≤ n) (hx : w.cell? ⟨b, o, none⟩ = some (.int .u8 x)) (h1 : ¬ x < 48) (h2 : 57 < x) :
    Calls Tryz.prog 78 #[.agg #[.slice (some ⟨b, o, none⟩) n c, .int .i64 0], .int .i64 most] w fun r w' => r = .returned (.tuple #[.agg #[.slice none 0 0, .int .i64 4], .string ⟨#[]⟩]) ∧ Below w.heap.size w w' := by
  have hbl : b < w.heap.size := World.block_lt_of_cell? w ⟨b, o, none⟩ hx
  have hx1 : ∀ o1 o2, ((w.alloc o1).alloc o2).cell? ⟨b, o, none⟩ = some (.int .u8 x) := fun o1 o2 => by
    rw [(((Below.refl w.heap.size w).alloc (Nat.le_refl _) o1).alloc (by simp) o2).cell (p := ⟨b, o, none⟩) hbl]; exact hx
  have hnz : ((n : Int) == 0) = false := by rw [beq_eq_false_iff_ne]; omega
  go_enter Tryz.func78, Tryz.ntmps78
  go_wp2_with (first
    | (go_at_call 125; refine (stop_any 4 _).mono ?_; rintro r w1 ⟨rfl, hb1⟩; refine Hid.out ?_))
  refine Lib.hid ?_
  have hb := hb1
  simp only [World.size_alloc] at hb
  obtain ⟨hcl, hfz⟩ := bcell hb1
  have hsz := hb1.size
  simp only [World.size_alloc] at hsz hcl hfz
  clear hb1
  go_wp2
  have hB : Below w.heap.size w w1 := ((((Below.refl w.heap.size w).alloc (Nat.le_refl _) _).alloc (by simp) _).trans (hb.mono (by omega)))
  exact bodyPost_ret (v := .tuple #[.agg #[.slice none 0 0, .int .i64 4], .string ⟨#[]⟩]) (by simp [results, Tryz.results78, go_sem, hcl]) rfl ⟨rfl, (hB.setCell (by simp) _).setCell (by simp) _⟩

set_option maxHeartbeats 1000000 in
theorem refrText_row (b o n c : Nat) (x most : Int) (w : World) (hn : 1 ≤ n) (hx : w.cell? ⟨b, o, none⟩ = some (.int .u8 x)) (h1 : ¬ x < 48) (h2 : ¬ 57 < x) (E : Int) (hE : (E != 0) = true) (U : ∀ o1 o2, Calls Tryz.prog 126 #[.slice (some ⟨b, o, none⟩) n c, .int .u8 58, .int .i64 10] ((w.alloc o1).alloc o2) fun r w' => r = .returned (.tuple #[.string ⟨#[]⟩, .int .i64 E]) ∧ w' = (w.alloc o1).alloc o2) :
    Calls Tryz.prog 78 #[.agg #[.slice (some ⟨b, o, none⟩) n c, .int .i64 0], .int .i64 most] w fun r w' => r = .returned (.tuple #[.agg #[.slice none 0 0, .int .i64 E], .string ⟨#[]⟩]) ∧ Below w.heap.size w w' := by
  have hbl : b < w.heap.size := World.block_lt_of_cell? w ⟨b, o, none⟩ hx
  have hx1 : ∀ o1 o2, ((w.alloc o1).alloc o2).cell? ⟨b, o, none⟩ = some (.int .u8 x) := fun o1 o2 => by
    rw [(((Below.refl w.heap.size w).alloc (Nat.le_refl _) o1).alloc (by simp) o2).cell (p := ⟨b, o, none⟩) hbl]; exact hx
  have hnz : ((n : Int) == 0) = false := by rw [beq_eq_false_iff_ne]; omega
  have HU := Lib.hid U
  clear U
  go_enter Tryz.func78, Tryz.ntmps78
  go_wp2_with (first
    | (go_at_call 126; refine (HU.out _ _).mono ?_; rintro r w0 ⟨rfl, rfl⟩)
    | (go_at_call 125; refine (stop_any E _).mono ?_; rintro r w1 ⟨rfl, hb1⟩; refine Hid.out ?_))
  refine Lib.hid ?_
  have hb := hb1
  simp only [World.size_alloc] at hb
  obtain ⟨hcl, hfz⟩ := bcell hb1
  have hsz := hb1.size
  simp only [World.size_alloc] at hsz hcl hfz
  clear hb1
  go_wp2
  have hB : Below w.heap.size w w1 := ((((Below.refl w.heap.size w).alloc (Nat.le_refl _) _).alloc (by simp) _).trans (hb.mono (by omega)))
  exact bodyPost_ret (v := .tuple #[.agg #[.slice none 0 0, .int .i64 E], .string ⟨#[]⟩]) (by simp [results, Tryz.results78, go_sem, hcl]) rfl ⟨rfl, (hB.setCell (by simp) _).setCell (by simp) _⟩

set_option maxHeartbeats 1000000 in
theorem refrText_bad (b o n c : Nat) (x most : Int) (w : World) (hn : 1 ≤ n) (hx : w.cell? ⟨b, o, none⟩ = some (.int .u8 x)) (h1 : ¬ x < 48) (h2 : ¬ 57 < x) (st : ByteArray) (k : Nat) (hst : st.size = k) (hk : k ≤ 10) (U : ∀ o1 o2, Calls Tryz.prog 126 #[.slice (some ⟨b, o, none⟩) n c, .int .u8 58, .int .i64 10] ((w.alloc o1).alloc o2) fun r w' => r = .returned (.tuple #[.string st, .int .i64 0]) ∧ w' = (w.alloc o1).alloc o2) (a4 : Option Addr) (n4 c4 : Nat) (hs4 : ∀ W, (Instr.slice 111 (.slice (some ⟨b, o, none⟩) n c) (some (.int .i64 ((k : Int) + 1))) none none).run Tryz.prog W = .ok (.slice a4 n4 c4) W) (N : ∀ W, Calls Tryz.prog 127 #[.string st] W fun r w' => (∃ y : Int, r = .returned (.tuple #[.int .i64 y, .bool false])) ∧ w' = W) :
    Calls Tryz.prog 78 #[.agg #[.slice (some ⟨b, o, none⟩) n c, .int .i64 0], .int .i64 most] w fun r w' => r = .returned (.tuple #[.agg #[.slice none 0 0, .int .i64 4], .string ⟨#[]⟩]) ∧ Below w.heap.size w w' := by
  have hbl : b < w.heap.size := World.block_lt_of_cell? w ⟨b, o, none⟩ hx
  have hx1 : ∀ o1 o2, ((w.alloc o1).alloc o2).cell? ⟨b, o, none⟩ = some (.int .u8 x) := fun o1 o2 => by
    rw [(((Below.refl w.heap.size w).alloc (Nat.le_refl _) o1).alloc (by simp) o2).cell (p := ⟨b, o, none⟩) hbl]; exact hx
  have hnz : ((n : Int) == 0) = false := by rw [beq_eq_false_iff_ne]; omega
  have HU := Lib.hid U
  have HN := Lib.hid N
  clear U N
  go_enter Tryz.func78, Tryz.ntmps78
  go_wp2_with (first
    | (go_at_call 126; refine (HU.out _ _).mono ?_; rintro r w0 ⟨rfl, rfl⟩)
    | (go_at_call 127; refine (HN.out _).mono ?_; rintro r w0 ⟨⟨y, rfl⟩, rfl⟩)
    | (go_at_call 125; refine (stop_any 4 _).mono ?_; rintro r w1 ⟨rfl, hb1⟩; refine Hid.out ?_))
  refine Lib.hid ?_
  have hb := hb1
  simp only [World.size_alloc] at hb
  obtain ⟨hcl, hfz⟩ := bcell hb1
  have hsz := hb1.size
  simp only [World.size_alloc] at hsz hcl hfz
  clear hb1
  go_wp2
  have hB : Below w.heap.size w w1 := ((((Below.refl w.heap.size w).alloc (Nat.le_refl _) _).alloc (by simp) _).trans (hb.mono (by omega)))
  exact bodyPost_ret (v := .tuple #[.agg #[.slice none 0 0, .int .i64 4], .string ⟨#[]⟩]) (by simp [results, Tryz.results78, go_sem, hcl]) rfl ⟨rfl, (hB.setCell (by simp) _).setCell (by simp) _⟩

set_option maxHeartbeats 1000000 in
theorem refrText_great (b o n c : Nat) (x most : Int) (w : World) (hn : 1 ≤ n) (hx : w.cell? ⟨b, o, none⟩ = some (.int .u8 x)) (h1 : ¬ x < 48) (h2 : ¬ 57 < x) (st : ByteArray) (k : Nat) (hst : st.size = k) (hk : k ≤ 10) (U : ∀ o1 o2, Calls Tryz.prog 126 #[.slice (some ⟨b, o, none⟩) n c, .int .u8 58, .int .i64 10] ((w.alloc o1).alloc o2) fun r w' => r = .returned (.tuple #[.string st, .int .i64 0]) ∧ w' = (w.alloc o1).alloc o2) (a4 : Option Addr) (n4 c4 : Nat) (hs4 : ∀ W, (Instr.slice 111 (.slice (some ⟨b, o, none⟩) n c) (some (.int .i64 ((k : Int) + 1))) none none).run Tryz.prog W = .ok (.slice a4 n4 c4) W) (v : Int) (N : ∀ W, Calls Tryz.prog 127 #[.string st] W fun r w' => r = .returned (.tuple #[.int .i64 v, .bool true]) ∧ w' = W) (hg : 1000000000 < v) :
    Calls Tryz.prog 78 #[.agg #[.slice (some ⟨b, o, none⟩) n c, .int .i64 0], .int .i64 most] w fun r w' => r = .returned (.tuple #[.agg #[.slice none 0 0, .int .i64 4], .string ⟨#[]⟩]) ∧ Below w.heap.size w w' := by
  have hbl : b < w.heap.size := World.block_lt_of_cell? w ⟨b, o, none⟩ hx
  have hx1 : ∀ o1 o2, ((w.alloc o1).alloc o2).cell? ⟨b, o, none⟩ = some (.int .u8 x) := fun o1 o2 => by
    rw [(((Below.refl w.heap.size w).alloc (Nat.le_refl _) o1).alloc (by simp) o2).cell (p := ⟨b, o, none⟩) hbl]; exact hx
  have hnz : ((n : Int) == 0) = false := by rw [beq_eq_false_iff_ne]; omega
  have HU := Lib.hid U
  have HN := Lib.hid N
  clear U N
  go_enter Tryz.func78, Tryz.ntmps78
  go_wp2_with (first
    | (go_at_call 126; refine (HU.out _ _).mono ?_; rintro r w0 ⟨rfl, rfl⟩)
    | (go_at_call 127; refine (HN.out _).mono ?_; rintro r w0 ⟨rfl, rfl⟩)
    | (go_at_call 125; refine (stop_any 4 _).mono ?_; rintro r w1 ⟨rfl, hb1⟩; refine Hid.out ?_))
  refine Lib.hid ?_
  have hb := hb1
  simp only [World.size_alloc] at hb
  obtain ⟨hcl, hfz⟩ := bcell hb1
  have hsz := hb1.size
  simp only [World.size_alloc] at hsz hcl hfz
  clear hb1
  go_wp2
  have hB : Below w.heap.size w w1 := ((((Below.refl w.heap.size w).alloc (Nat.le_refl _) _).alloc (by simp) _).trans (hb.mono (by omega)))
  exact bodyPost_ret (v := .tuple #[.agg #[.slice none 0 0, .int .i64 4], .string ⟨#[]⟩]) (by simp [results, Tryz.results78, go_sem, hcl]) rfl ⟨rfl, (hB.setCell (by simp) _).setCell (by simp) _⟩

set_option maxHeartbeats 1000000 in
theorem refrText_most (b o n c : Nat) (x most : Int) (w : World) (hn : 1 ≤ n) (hx : w.cell? ⟨b, o, none⟩ = some (.int .u8 x)) (h1 : ¬ x < 48) (h2 : ¬ 57 < x) (st : ByteArray) (k : Nat) (hst : st.size = k) (hk : k ≤ 10) (U : ∀ o1 o2, Calls Tryz.prog 126 #[.slice (some ⟨b, o, none⟩) n c, .int .u8 58, .int .i64 10] ((w.alloc o1).alloc o2) fun r w' => r = .returned (.tuple #[.string st, .int .i64 0]) ∧ w' = (w.alloc o1).alloc o2) (a4 : Option Addr) (n4 c4 : Nat) (hs4 : ∀ W, (Instr.slice 111 (.slice (some ⟨b, o, none⟩) n c) (some (.int .i64 ((k : Int) + 1))) none none).run Tryz.prog W = .ok (.slice a4 n4 c4) W) (v : Int) (N : ∀ W, Calls Tryz.prog 127 #[.string st] W fun r w' => r = .returned (.tuple #[.int .i64 v, .bool true]) ∧ w' = W) (hg : ¬ 1000000000 < v) (hm : most < v) :
    Calls Tryz.prog 78 #[.agg #[.slice (some ⟨b, o, none⟩) n c, .int .i64 0], .int .i64 most] w fun r w' => r = .returned (.tuple #[.agg #[.slice none 0 0, .int .i64 5], .string ⟨#[]⟩]) ∧ Below w.heap.size w w' := by
  have hbl : b < w.heap.size := World.block_lt_of_cell? w ⟨b, o, none⟩ hx
  have hx1 : ∀ o1 o2, ((w.alloc o1).alloc o2).cell? ⟨b, o, none⟩ = some (.int .u8 x) := fun o1 o2 => by
    rw [(((Below.refl w.heap.size w).alloc (Nat.le_refl _) o1).alloc (by simp) o2).cell (p := ⟨b, o, none⟩) hbl]; exact hx
  have hnz : ((n : Int) == 0) = false := by rw [beq_eq_false_iff_ne]; omega
  have HU := Lib.hid U
  have HN := Lib.hid N
  clear U N
  go_enter Tryz.func78, Tryz.ntmps78
  go_wp2_with (first
    | (go_at_call 126; refine (HU.out _ _).mono ?_; rintro r w0 ⟨rfl, rfl⟩)
    | (go_at_call 127; refine (HN.out _).mono ?_; rintro r w0 ⟨rfl, rfl⟩)
    | (go_at_call 125; refine (stop_any 5 _).mono ?_; rintro r w1 ⟨rfl, hb1⟩; refine Hid.out ?_))
  refine Lib.hid ?_
  have hb := hb1
  simp only [World.size_alloc] at hb
  obtain ⟨hcl, hfz⟩ := bcell hb1
  have hsz := hb1.size
  simp only [World.size_alloc] at hsz hcl hfz
  clear hb1
  go_wp2
  have hB : Below w.heap.size w w1 := ((((Below.refl w.heap.size w).alloc (Nat.le_refl _) _).alloc (by simp) _).trans (hb.mono (by omega)))
  exact bodyPost_ret (v := .tuple #[.agg #[.slice none 0 0, .int .i64 5], .string ⟨#[]⟩]) (by simp [results, Tryz.results78, go_sem, hcl]) rfl ⟨rfl, (hB.setCell (by simp) _).setCell (by simp) _⟩

set_option maxHeartbeats 1000000 in
theorem refrText_short (b o n c : Nat) (x most : Int) (w : World) (hn : 1 ≤ n) (hx : w.cell? ⟨b, o, none⟩ = some (.int .u8 x)) (h1 : ¬ x < 48) (h2 : ¬ 57 < x) (st : ByteArray) (k : Nat) (hst : st.size = k) (hk : k ≤ 10) (U : ∀ o1 o2, Calls Tryz.prog 126 #[.slice (some ⟨b, o, none⟩) n c, .int .u8 58, .int .i64 10] ((w.alloc o1).alloc o2) fun r w' => r = .returned (.tuple #[.string st, .int .i64 0]) ∧ w' = (w.alloc o1).alloc o2) (a4 : Option Addr) (n4 c4 : Nat) (hs4 : ∀ W, (Instr.slice 111 (.slice (some ⟨b, o, none⟩) n c) (some (.int .i64 ((k : Int) + 1))) none none).run Tryz.prog W = .ok (.slice a4 n4 c4) W) (v : Int) (N : ∀ W, Calls Tryz.prog 127 #[.string st] W fun r w' => r = .returned (.tuple #[.int .i64 v, .bool true]) ∧ w' = W) (hg : ¬ 1000000000 < v) (hm : ¬ most < v) (hs : (n4 : Int) < v) :
    Calls Tryz.prog 78 #[.agg #[.slice (some ⟨b, o, none⟩) n c, .int .i64 0], .int .i64 most] w fun r w' => r = .returned (.tuple #[.agg #[.slice none 0 0, .int .i64 3], .string ⟨#[]⟩]) ∧ Below w.heap.size w w' := by
  have hbl : b < w.heap.size := World.block_lt_of_cell? w ⟨b, o, none⟩ hx
  have hx1 : ∀ o1 o2, ((w.alloc o1).alloc o2).cell? ⟨b, o, none⟩ = some (.int .u8 x) := fun o1 o2 => by
    rw [(((Below.refl w.heap.size w).alloc (Nat.le_refl _) o1).alloc (by simp) o2).cell (p := ⟨b, o, none⟩) hbl]; exact hx
  have hnz : ((n : Int) == 0) = false := by rw [beq_eq_false_iff_ne]; omega
  have HU := Lib.hid U
  have HN := Lib.hid N
  clear U N
  go_enter Tryz.func78, Tryz.ntmps78
  go_wp2_with (first
    | (go_at_call 126; refine (HU.out _ _).mono ?_; rintro r w0 ⟨rfl, rfl⟩)
    | (go_at_call 127; refine (HN.out _).mono ?_; rintro r w0 ⟨rfl, rfl⟩)
    | (go_at_call 125; refine (stop_any 3 _).mono ?_; rintro r w1 ⟨rfl, hb1⟩; refine Hid.out ?_))
  refine Lib.hid ?_
  have hb := hb1
  simp only [World.size_alloc] at hb
  obtain ⟨hcl, hfz⟩ := bcell hb1
  have hsz := hb1.size
  simp only [World.size_alloc] at hsz hcl hfz
  clear hb1
  go_wp2
  have hB : Below w.heap.size w w1 := ((((Below.refl w.heap.size w).alloc (Nat.le_refl _) _).alloc (by simp) _).trans (hb.mono (by omega)))
  exact bodyPost_ret (v := .tuple #[.agg #[.slice none 0 0, .int .i64 3], .string ⟨#[]⟩]) (by simp [results, Tryz.results78, go_sem, hcl]) rfl ⟨rfl, (hB.setCell (by simp) _).setCell (by simp) _⟩

set_option maxHeartbeats 2000000 in
set_option maxRecDepth 100000 in
theorem refrText_ok (b o n c : Nat) (x most : Int) (w : World) (hn : 1 ≤ n) (hx : w.cell? ⟨b, o, none⟩ = some (.int .u8 x)) (h1 : ¬ x < 48) (h2 : ¬ 57 < x) (st : ByteArray) (k : Nat) (hst : st.size = k) (hk : k ≤ 10) (U : ∀ o1 o2, Calls Tryz.prog 126 #[.slice (some ⟨b, o, none⟩) n c, .int .u8 58, .int .i64 10] ((w.alloc o1).alloc o2) fun r w' => r = .returned (.tuple #[.string st, .int .i64 0]) ∧ w' = (w.alloc o1).alloc o2) (a4 : Option Addr) (n4 c4 : Nat) (hs4 : ∀ W, (Instr.slice 111 (.slice (some ⟨b, o, none⟩) n c) (some (.int .i64 ((k : Int) + 1))) none none).run Tryz.prog W = .ok (.slice a4 n4 c4) W) (j : Nat) (N : ∀ W, Calls Tryz.prog 127 #[.string st] W fun r w' => r = .returned (.tuple #[.int .i64 (j : Int), .bool true]) ∧ w' = W) (hg : ¬ 1000000000 < (j : Int)) (hm : ¬ most < (j : Int)) (hs : ¬ (n4 : Int) < (j : Int))
    (a5 : Option Addr) (n5 c5 : Nat) (hs5 : ∀ W, (Instr.slice 111 (.slice a4 n4 c4) (some (.int .i64 (j : Int))) none none).run Tryz.prog W = .ok (.slice a5 n5 c5) W) (hs6 : ∀ W, (Instr.slice 111 (.slice a4 n4 c4) none (some (.int .i64 (j : Int))) none).run Tryz.prog W = .ok (.slice a4 j c4) W)
    (q : ByteArray) (hcv : ∀ W, Below w.heap.size w W → (convert 111 9 (.slice a4 j c4)).run Tryz.prog W = .ok (.string q) W) :
    Calls Tryz.prog 78 #[.agg #[.slice (some ⟨b, o, none⟩) n c, .int .i64 0], .int .i64 most] w fun r w' => r = .returned (.tuple #[.agg #[.slice a5 n5 c5, .int .i64 0], .string q]) ∧ Below w.heap.size w w' := by
  have hbl : b < w.heap.size := World.block_lt_of_cell? w ⟨b, o, none⟩ hx
  have hx1 : ∀ o1 o2, ((w.alloc o1).alloc o2).cell? ⟨b, o, none⟩ = some (.int .u8 x) := fun o1 o2 => by
    rw [(((Below.refl w.heap.size w).alloc (Nat.le_refl _) o1).alloc (by simp) o2).cell (p := ⟨b, o, none⟩) hbl]; exact hx
  have hnz : ((n : Int) == 0) = false := by rw [beq_eq_false_iff_ne]; omega
  have HU := Lib.hid U
  have HN := Lib.hid N
  clear U N
  have HCV := Lib.hid hcv
  clear hcv
  go_enter Tryz.func78, Tryz.ntmps78
  go_wp2_with (first
    | (go_at_call 126; refine (HU.out _ _).mono ?_; rintro r w0 ⟨rfl, rfl⟩)
    | (go_at_call 127; refine (HN.out _).mono ?_; rintro r w0 ⟨rfl, rfl⟩))
  go_region_held3 (fun w' => (convert 111 9 (.slice a4 j c4)).run Tryz.prog w' = .ok (.string q) w') (first | go_keep | (exact HCV.out _ (by repeat (first | exact Below.refl _ _ | refine Below.setCell ?_ (by simp) _ | refine below_drewN ?_ _ | refine Below.drew ?_ | refine Below.alloc ?_ (by simp) _))))
    (fail)
  go_wp2
  exact bodyPost_ret (v := .tuple #[.agg #[.slice a5 n5 c5, .int .i64 0], .string q]) (by simp [results, Tryz.results78, go_sem]) rfl ⟨rfl, by repeat (first | exact Below.refl _ _ | refine Below.setCell ?_ (by simp) _ | refine below_drewN ?_ _ | refine Below.drew ?_ | refine Below.alloc ?_ (by simp) _)⟩

end Go.Proofs.YtcngifkoopcmeaaGreatDoor
namespace Go.Proofs.YtcngifkoopcmeaaGreatDoor
open Go.RowKit

theorem texts_stop {w w' : World} {r : Ending} {E : Int} (h : r = .returned (.tuple #[.agg #[.slice none 0 0, .int .i64 E], .string ⟨#[]⟩]) ∧ Below w.heap.size w w') {res : List UInt8 × Int × List UInt8} {a0 : Option Addr} (e : res = ([], E, [])) : refTexts w w' a0 r res := by
  subst e
  exact ⟨⟨none, 0, h.1, .inl ⟨rfl, rfl⟩, Nat.le_refl _, fun q hq => by cases hq⟩, h.2⟩

set_option maxHeartbeats 1000000 in
theorem refrText_any (a : Option Addr) (c : Nat) (l : List UInt8) (most : Int) (w : World) (h : SrcAt w (.slice a l.length c) l) (hc : l.length ≤ c) (hlb : l.length ≤ 140737488355328) :
    Calls Tryz.prog 78 #[.agg #[.slice a l.length c, .int .i64 0], .int .i64 most] w fun r w' => refTexts w w' a r (rdText most l) := by
  cases l with
  | nil => exact (refrText_end a c most w).mono fun r w' hr => texts_stop hr rfl
  | cons x l =>
    have hsrc := h
    rcases h with ⟨_, h0⟩ | ⟨q, c', e, hcell⟩
    · cases h0
    simp only [Value.slice.injEq] at e
    obtain ⟨rfl, -, rfl⟩ := e
    have h0 := hcell 0 (by simp)
    obtain ⟨b, o, s⟩ := q
    obtain rfl : s = none := by simpa [Addr.add] using World.cell?_spot h0
    rw [Go.WideShapes.add_plain] at h0
    simp only [Nat.add_zero, List.getElem_cons_zero] at h0
    have hu := fun o1 o2 => until_any (some ⟨b, o, none⟩) c (x :: l) 58 10 ((w.alloc o1).alloc o2) (hsrc.below (((Below.refl w.heap.size w).alloc (Nat.le_refl _) o1).alloc (by simp) o2) (Nat.le_refl _)) hc hlb (by omega)
    simp only [rdText]
    by_cases hd : x.toNat < 48 ∨ 57 < x.toNat
    · rw [if_pos hd]
      by_cases hlo : x.toNat < 48
      · exact (refrText_low b o _ c x.toNat most w (by simp) h0 (by omega)).mono fun r w' hr => texts_stop hr rfl
      · exact (refrText_high b o _ c x.toNat most w (by simp) h0 (by omega) (by omega)).mono fun r w' hr => texts_stop hr rfl
    rw [if_neg hd]
    by_cases hidx : Lib.indexByte ((x :: l).take 11) 58 = -1
    · rw [if_pos hidx]
      have hun := until_none (m := 10) hidx
      rw [hun] at hu
      by_cases hlong : 10 < l.length + 1
      · rw [if_pos hlong]
        rw [if_pos (by simpa using hlong)] at hu
        exact (refrText_row b o _ c x.toNat most w (by simp) h0 (by omega) (by omega) 4 (by decide) (fun o1 o2 => hu o1 o2)).mono fun r w' hr => texts_stop hr rfl
      · rw [if_neg hlong]
        rw [if_neg (by simpa using hlong)] at hu
        exact (refrText_row b o _ c x.toNat most w (by simp) h0 (by omega) (by omega) 3 (by decide) (fun o1 o2 => hu o1 o2)).mono fun r w' hr => texts_stop hr rfl
    rw [if_neg hidx]
    obtain ⟨k, hk⟩ : ∃ k : Nat, Lib.indexByte ((x :: l).take 11) 58 = k := by
      have := Lib.indexByte_ge ((x :: l).take 11) 58
      exact ⟨(Lib.indexByte ((x :: l).take 11) 58).toNat, by omega⟩
    obtain ⟨hkl, hk10, -⟩ := hit_facts (m := 10) hk
    have hun := until_some (m := 10) hk
    rw [hun] at hu
    rw [hk, Int.toNat_natCast]
    have hst : (⟨((x :: l).take k).toArray⟩ : ByteArray).size = k := by rw [size_str, List.length_take]; omega
    have htl : ((x :: l).take k).length ≤ 1000 := by rw [List.length_take]; omega
    obtain ⟨a4, ha4⟩ : ∃ y, y = (if c = k + 1 then some (⟨b, o, none⟩ : Addr) else (some (⟨b, o, none⟩ : Addr)).map (·.add ((k + 1) * 1))) := ⟨_, rfl⟩
    have hs4 : ∀ W, (Instr.slice 111 (.slice (some ⟨b, o, none⟩) (x :: l).length c) (some (.int .i64 ((k : Int) + 1))) none none).run Tryz.prog W = .ok (.slice a4 ((x :: l).length - (k + 1)) (c - (k + 1))) W := fun W => by
      have := slice_from (some ⟨b, o, none⟩) (x :: l).length c (k + 1) W (by omega)
      rw [ha4]
      exact this
    have hr4 := hsrc.rest hc (k + 1) (by omega)
    rw [← ha4] at hr4
    have hl4 : ((x :: l).drop (k + 1)).length = (x :: l).length - (k + 1) := List.length_drop
    generalize hR : (x :: l).drop (k + 1) = R at *
    rw [← hl4] at hs4 hr4
    cases hn : numOf ((x :: l).take k) with
    | none => exact (refrText_bad b o _ c x.toNat most w (by simp) h0 (by omega) (by omega) _ k hst hk10 (fun o1 o2 => hu o1 o2) a4 _ _ hs4 (fun W => refnumber_none _ W htl hn)).mono fun r w' hr => texts_stop hr rfl
    | some n =>
      have hnn := numOf_digit (by omega) hn
      obtain ⟨j, rfl⟩ : ∃ j : Nat, n = j := ⟨n.toNat, by omega⟩
      simp only
      by_cases hg : 1000000000 < (j : Int)
      · rw [if_pos hg]
        exact (refrText_great b o _ c x.toNat most w (by simp) h0 (by omega) (by omega) _ k hst hk10 (fun o1 o2 => hu o1 o2) a4 _ _ hs4 j (fun W => refnumber_some _ _ W htl hn) hg).mono fun r w' hr => texts_stop hr rfl
      rw [if_neg hg]
      by_cases hm : most < (j : Int)
      · rw [if_pos hm]
        exact (refrText_most b o _ c x.toNat most w (by simp) h0 (by omega) (by omega) _ k hst hk10 (fun o1 o2 => hu o1 o2) a4 _ _ hs4 j (fun W => refnumber_some _ _ W htl hn) hg hm).mono fun r w' hr => texts_stop hr rfl
      rw [if_neg hm]
      by_cases hs : (R.length : Int) < (j : Int)
      · rw [if_pos hs]
        exact (refrText_short b o _ c x.toNat most w (by simp) h0 (by omega) (by omega) _ k hst hk10 (fun o1 o2 => hu o1 o2) a4 _ _ hs4 j (fun W => refnumber_some _ _ W htl hn) hg hm hs).mono fun r w' hr => texts_stop hr rfl
      rw [if_neg hs, Int.toNat_natCast]
      have hc4 : R.length ≤ c - (k + 1) := by omega
      obtain ⟨a5, ha5⟩ : ∃ y, y = (if c - (k + 1) = j then a4 else a4.map (·.add (j * 1))) := ⟨_, rfl⟩
      have hs5 : ∀ W, (Instr.slice 111 (.slice a4 R.length (c - (k + 1))) (some (.int .i64 (j : Int))) none none).run Tryz.prog W = .ok (.slice a5 (R.length - j) (c - (k + 1) - j)) W := fun W => by
        rw [ha5]
        exact slice_from a4 R.length (c - (k + 1)) j W (by omega)
      have hs6 : ∀ W, (Instr.slice 111 (.slice a4 R.length (c - (k + 1))) none (some (.int .i64 (j : Int))) none).run Tryz.prog W = .ok (.slice a4 j (c - (k + 1))) W := fun W => slice_to a4 R.length (c - (k + 1)) j W (by omega)
      have hr5 := hr4.rest hc4 j (by omega)
      rw [← ha5] at hr5
      have hcv : ∀ W, Below w.heap.size w W → (convert 111 9 (.slice a4 j (c - (k + 1)))).run Tryz.prog W = .ok (.string ⟨(R.take j).toArray⟩) W := fun W hb => src_take (hr4.below hb (Nat.le_refl _)) j (by omega)
      refine (refrText_ok b o _ c x.toNat most w (by simp) h0 (by omega) (by omega) _ k hst hk10 (fun o1 o2 => hu o1 o2) a4 _ _ hs4 j (fun W => refnumber_some _ _ W htl hn) hg hm hs a5 _ _ hs5 hs6 _ hcv).mono fun r w' hr => ?_
      obtain ⟨he, hb⟩ := hr
      have hl5 : (R.drop j).length = R.length - j := List.length_drop
      refine ⟨⟨a5, c - (k + 1) - j, ?_, ?_, by show (R.drop j).length ≤ _; omega, fun q hq => ⟨_, rfl, ?_⟩⟩, hb⟩
      · rw [he, hl5]
      · rw [hl5]
        exact hr5.below hb (Nat.le_refl _)
      · have hb4 : ∀ q, a4 = some q → q.block = b := fun q hq => by
          rw [ha4] at hq
          split at hq
          · obtain rfl := Option.some.inj hq
            rfl
          · simp only [Option.map_some, Option.some.injEq] at hq
            rw [← hq, add_block]
        rw [ha5] at hq
        split at hq
        · exact hb4 q hq
        · obtain ⟨q4, hq4, rfl⟩ := Option.map_eq_some_iff.1 hq
          rw [add_block]
          exact hb4 q4 hq4

/-- What Byte tells, as the program's reader tells it. -/
theorem refByte_any (a : Option Addr) (c : Nat) (l : List UInt8) (ch : UInt8) (w : World) (h : SrcAt w (.slice a l.length c) l) (hc : l.length ≤ c) :
    Calls Tryz.prog 76 #[.agg #[.slice a l.length c, .int .i64 0], .int .u8 ch.toNat] w fun r w' =>
      (∃ a' c', r = .returned (.agg #[.slice a' (rdByte ch l).1.length c', .int .i64 (rdByte ch l).2]) ∧ SrcAt w' (.slice a' (rdByte ch l).1.length c') (rdByte ch l).1 ∧ (rdByte ch l).1.length ≤ c' ∧ ∀ q, a' = some q → ∃ q0, a = some q0 ∧ q.block = q0.block) ∧ Below w.heap.size w w' := by
  cases l with
  | nil => exact (refByte_cut a c ch.toNat w).mono fun r w' hr => ⟨⟨none, 0, hr.1, .inl ⟨rfl, rfl⟩, Nat.le_refl _, fun q hq => by cases hq⟩, hr.2⟩
  | cons x l =>
    have hsrc := h
    rcases h with ⟨_, h0⟩ | ⟨q, c', e, hcell⟩
    · cases h0
    simp only [Value.slice.injEq] at e
    obtain ⟨rfl, -, rfl⟩ := e
    have h0 := hcell 0 (by simp)
    obtain ⟨b, o, s⟩ := q
    obtain rfl : s = none := by simpa [Addr.add] using World.cell?_spot h0
    rw [Go.WideShapes.add_plain] at h0
    simp only [Nat.add_zero, List.getElem_cons_zero] at h0
    by_cases hx : x = ch
    · have e : rdByte ch (x :: l) = (l, 0) := if_pos hx
      rw [e]
      obtain ⟨a4, ha4⟩ : ∃ y, y = (if c = 1 then some (⟨b, o, none⟩ : Addr) else (some (⟨b, o, none⟩ : Addr)).map (·.add (1 * 1))) := ⟨_, rfl⟩
      have hs4 : ∀ W, (Instr.slice 111 (.slice (some ⟨b, o, none⟩) (x :: l).length c) (some (.int .i64 1)) none none).run Tryz.prog W = .ok (.slice a4 ((x :: l).length - 1) (c - 1)) W := fun W => by
        rw [ha4]
        exact slice_from (some ⟨b, o, none⟩) (x :: l).length c 1 W (by simp)
      have hr4 := hsrc.rest hc 1 (by simp)
      rw [← ha4] at hr4
      simp only [List.length_cons, Nat.add_sub_cancel, List.drop_succ_cons, List.drop_zero] at hr4 hs4 hc
      refine (refByte_ok b o (l.length + 1) c x.toNat ch.toNat w (by simp) a4 hs4 h0 (by rw [hx]; simp)).mono fun r w' hr => ?_
      refine ⟨⟨a4, c - 1, by simpa using hr.1, hr4.below hr.2 (Nat.le_refl _), by show l.length ≤ _; omega, fun q hq => ⟨_, rfl, ?_⟩⟩, hr.2⟩
      rw [ha4] at hq
      split at hq
      · obtain rfl := Option.some.inj hq
        rfl
      · simp only [Option.map_some, Option.some.injEq] at hq
        rw [← hq, add_block]
    · have e : rdByte ch (x :: l) = ([], 4) := if_neg hx
      rw [e]
      refine (refByte_other b o _ c x.toNat ch.toNat w (by simp) h0 (ne_byte rfl hx)).mono fun r w' hr => ?_
      exact ⟨⟨none, 0, hr.1, .inl ⟨rfl, rfl⟩, Nat.le_refl _, fun q hq => by cases hq⟩, hr.2⟩

end Go.Proofs.YtcngifkoopcmeaaGreatDoor
