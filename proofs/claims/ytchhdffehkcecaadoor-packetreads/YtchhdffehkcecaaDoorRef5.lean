/-
  Text of the reference's reader, walked: what it tells is what the reader of the program tells.
-/
import Derived.Test.YtchhdffehkcecaaDoorRef4b
import Derived.Deep.RegionHeld3
namespace Go.Proofs.YtchhdffehkcecaaDoor
open Go.RowKit

theorem until_some {l : List UInt8} {ch : UInt8} {m k : Nat} (h : Lib.indexByte (l.take (m + 1)) ch = k) : untilOf l ch m = (l.take k, 0) := by
  unfold untilOf
  rw [if_neg (by omega), h, Int.toNat_natCast]
theorem until_none {l : List UInt8} {ch : UInt8} {m : Nat} (h : Lib.indexByte (l.take (m + 1)) ch = -1) : untilOf l ch m = ([], if m < l.length then 4 else 3) := by
  unfold untilOf
  rw [if_pos h]

/-- A text or none, with what is left: as the reader tells it. -/
abbrev refTexts (w w' : World) (a0 : Option Addr) (r : Ending) (res : List UInt8 × Int × List UInt8) : Prop :=
  (∃ a c, r = .returned (.tuple #[.agg #[.slice a res.1.length c, .int .i64 res.2.1], .string ⟨res.2.2.toArray⟩]) ∧ SrcAt w' (.slice a res.1.length c) res.1 ∧ res.1.length ≤ c ∧ ∀ q, a = some q → ∃ q0, a0 = some q0 ∧ q.block = q0.block) ∧ Below w.heap.size w w'

theorem refrText_err (a : Option Addr) (n c : Nat) (e most : Int) (w : World) (he : (e != 0) = true) :
    Calls Tryd.prog 62 #[.agg #[.slice a n c, .int .i64 e], .int .i64 most] w fun r w' => r = .returned (.tuple #[.agg #[.slice a n c, .int .i64 e], .string ⟨#[]⟩]) ∧ Below w.heap.size w w' := by
  go_enter Tryd.func62, Tryd.ntmps62
  go_wp2
  exact bodyPost_ret (v := .tuple #[.agg #[.slice a n c, .int .i64 e], .string ⟨#[]⟩]) (by simp [results, Tryd.results62, go_sem]) rfl ⟨rfl, ((Below.refl _ _).alloc (Nat.le_refl _) _).alloc (by simp) _⟩

set_option maxHeartbeats 1000000 in
theorem refrText_end (a : Option Addr) (c : Nat) (most : Int) (w : World) :
    Calls Tryd.prog 62 #[.agg #[.slice a 0 c, .int .i64 0], .int .i64 most] w fun r w' => r = .returned (.tuple #[.agg #[.slice none 0 0, .int .i64 3], .string ⟨#[]⟩]) ∧ Below w.heap.size w w' := by
  go_enter Tryd.func62, Tryd.ntmps62
  go_wp2_with (first
    | (go_at_call 59; refine (stop_any 3 _).mono ?_; rintro r w1 ⟨rfl, hb1⟩; refine Hid.out ?_))
  refine Lib.hid ?_
  have hb := hb1
  simp only [World.size_alloc] at hb
  obtain ⟨hcl, hfz⟩ := bcell hb1
  have hsz := hb1.size
  simp only [World.size_alloc] at hsz hcl hfz
  clear hb1
  go_wp2
  have hB : Below w.heap.size w w1 := ((((Below.refl w.heap.size w).alloc (Nat.le_refl _) _).alloc (by simp) _).trans (hb.mono (by omega)))
  exact bodyPost_ret (v := .tuple #[.agg #[.slice none 0 0, .int .i64 3], .string ⟨#[]⟩]) (by simp [results, Tryd.results62, go_sem, hcl]) rfl ⟨rfl, (hB.setCell (by simp) _).setCell (by simp) _⟩

set_option maxHeartbeats 1000000 in
theorem refrText_low (b o n c : Nat) (x most : Int) (w : World) (hn : 1 ≤ n) (hx : w.cell? ⟨b, o, none⟩ = some (.int .u8 x)) (h1 : x < 48) :
    Calls Tryd.prog 62 #[.agg #[.slice (some ⟨b, o, none⟩) n c, .int .i64 0], .int .i64 most] w fun r w' => r = .returned (.tuple #[.agg #[.slice none 0 0, .int .i64 4], .string ⟨#[]⟩]) ∧ Below w.heap.size w w' := by
  have hbl : b < w.heap.size := World.block_lt_of_cell? w ⟨b, o, none⟩ hx
  have hx1 : ∀ o1 o2, ((w.alloc o1).alloc o2).cell? ⟨b, o, none⟩ = some (.int .u8 x) := fun o1 o2 => by
    rw [(((Below.refl w.heap.size w).alloc (Nat.le_refl _) o1).alloc (by simp) o2).cell (p := ⟨b, o, none⟩) hbl]; exact hx
  have hnz : ((n : Int) == 0) = false := by rw [beq_eq_false_iff_ne]; omega
  go_enter Tryd.func62, Tryd.ntmps62
  go_wp2_with (first
    | (go_at_call 59; refine (stop_any 4 _).mono ?_; rintro r w1 ⟨rfl, hb1⟩; refine Hid.out ?_))
  refine Lib.hid ?_
  have hb := hb1
  simp only [World.size_alloc] at hb
  obtain ⟨hcl, hfz⟩ := bcell hb1
  have hsz := hb1.size
  simp only [World.size_alloc] at hsz hcl hfz
  clear hb1
  go_wp2
  have hB : Below w.heap.size w w1 := ((((Below.refl w.heap.size w).alloc (Nat.le_refl _) _).alloc (by simp) _).trans (hb.mono (by omega)))
  exact bodyPost_ret (v := .tuple #[.agg #[.slice none 0 0, .int .i64 4], .string ⟨#[]⟩]) (by simp [results, Tryd.results62, go_sem, hcl]) rfl ⟨rfl, (hB.setCell (by simp) _).setCell (by simp) _⟩

set_option maxHeartbeats 1000000 in
theorem refrText_high (b o n c : Nat) (x most : Int) (w : World) (hn : 1 ≤ n) (hx : w.cell? ⟨b, o, none⟩ = some (.int .u8 x)) (h1 : ¬ x < 48) (h2 : 57 < x) :
    Calls Tryd.prog 62 #[.agg #[.slice (some ⟨b, o, none⟩) n c, .int .i64 0], .int .i64 most] w fun r w' => r = .returned (.tuple #[.agg #[.slice none 0 0, .int .i64 4], .string ⟨#[]⟩]) ∧ Below w.heap.size w w' := by
  have hbl : b < w.heap.size := World.block_lt_of_cell? w ⟨b, o, none⟩ hx
  have hx1 : ∀ o1 o2, ((w.alloc o1).alloc o2).cell? ⟨b, o, none⟩ = some (.int .u8 x) := fun o1 o2 => by
    rw [(((Below.refl w.heap.size w).alloc (Nat.le_refl _) o1).alloc (by simp) o2).cell (p := ⟨b, o, none⟩) hbl]; exact hx
  have hnz : ((n : Int) == 0) = false := by rw [beq_eq_false_iff_ne]; omega
  go_enter Tryd.func62, Tryd.ntmps62
  go_wp2_with (first
    | (go_at_call 59; refine (stop_any 4 _).mono ?_; rintro r w1 ⟨rfl, hb1⟩; refine Hid.out ?_))
  refine Lib.hid ?_
  have hb := hb1
  simp only [World.size_alloc] at hb
  obtain ⟨hcl, hfz⟩ := bcell hb1
  have hsz := hb1.size
  simp only [World.size_alloc] at hsz hcl hfz
  clear hb1
  go_wp2
  have hB : Below w.heap.size w w1 := ((((Below.refl w.heap.size w).alloc (Nat.le_refl _) _).alloc (by simp) _).trans (hb.mono (by omega)))
  exact bodyPost_ret (v := .tuple #[.agg #[.slice none 0 0, .int .i64 4], .string ⟨#[]⟩]) (by simp [results, Tryd.results62, go_sem, hcl]) rfl ⟨rfl, (hB.setCell (by simp) _).setCell (by simp) _⟩

set_option maxHeartbeats 1000000 in
theorem refrText_row (b o n c : Nat) (x most : Int) (w : World) (hn : 1 ≤ n) (hx : w.cell? ⟨b, o, none⟩ = some (.int .u8 x)) (h1 : ¬ x < 48) (h2 : ¬ 57 < x) (E : Int) (hE : (E != 0) = true) (U : ∀ o1 o2, Calls Tryd.prog 60 #[.slice (some ⟨b, o, none⟩) n c, .int .u8 58, .int .i64 10] ((w.alloc o1).alloc o2) fun r w' => r = .returned (.tuple #[.string ⟨#[]⟩, .int .i64 E]) ∧ w' = (w.alloc o1).alloc o2) :
    Calls Tryd.prog 62 #[.agg #[.slice (some ⟨b, o, none⟩) n c, .int .i64 0], .int .i64 most] w fun r w' => r = .returned (.tuple #[.agg #[.slice none 0 0, .int .i64 E], .string ⟨#[]⟩]) ∧ Below w.heap.size w w' := by
  have hbl : b < w.heap.size := World.block_lt_of_cell? w ⟨b, o, none⟩ hx
  have hx1 : ∀ o1 o2, ((w.alloc o1).alloc o2).cell? ⟨b, o, none⟩ = some (.int .u8 x) := fun o1 o2 => by
    rw [(((Below.refl w.heap.size w).alloc (Nat.le_refl _) o1).alloc (by simp) o2).cell (p := ⟨b, o, none⟩) hbl]; exact hx
  have hnz : ((n : Int) == 0) = false := by rw [beq_eq_false_iff_ne]; omega
  have HU := Lib.hid U
  clear U
  go_enter Tryd.func62, Tryd.ntmps62
  go_wp2_with (first
    | (go_at_call 60; refine (HU.out _ _).mono ?_; rintro r w0 ⟨rfl, rfl⟩)
    | (go_at_call 59; refine (stop_any E _).mono ?_; rintro r w1 ⟨rfl, hb1⟩; refine Hid.out ?_))
  refine Lib.hid ?_
  have hb := hb1
  simp only [World.size_alloc] at hb
  obtain ⟨hcl, hfz⟩ := bcell hb1
  have hsz := hb1.size
  simp only [World.size_alloc] at hsz hcl hfz
  clear hb1
  go_wp2
  have hB : Below w.heap.size w w1 := ((((Below.refl w.heap.size w).alloc (Nat.le_refl _) _).alloc (by simp) _).trans (hb.mono (by omega)))
  exact bodyPost_ret (v := .tuple #[.agg #[.slice none 0 0, .int .i64 E], .string ⟨#[]⟩]) (by simp [results, Tryd.results62, go_sem, hcl]) rfl ⟨rfl, (hB.setCell (by simp) _).setCell (by simp) _⟩

set_option maxHeartbeats 1000000 in
theorem refrText_bad (b o n c : Nat) (x most : Int) (w : World) (hn : 1 ≤ n) (hx : w.cell? ⟨b, o, none⟩ = some (.int .u8 x)) (h1 : ¬ x < 48) (h2 : ¬ 57 < x) (st : ByteArray) (k : Nat) (hst : st.size = k) (hk : k ≤ 10) (U : ∀ o1 o2, Calls Tryd.prog 60 #[.slice (some ⟨b, o, none⟩) n c, .int .u8 58, .int .i64 10] ((w.alloc o1).alloc o2) fun r w' => r = .returned (.tuple #[.string st, .int .i64 0]) ∧ w' = (w.alloc o1).alloc o2) (a4 : Option Addr) (n4 c4 : Nat) (hs4 : ∀ W, (Instr.slice 30 (.slice (some ⟨b, o, none⟩) n c) (some (.int .i64 ((k : Int) + 1))) none none).run Tryd.prog W = .ok (.slice a4 n4 c4) W) (N : ∀ W, Calls Tryd.prog 61 #[.string st] W fun r w' => (∃ y : Int, r = .returned (.tuple #[.int .i64 y, .bool false])) ∧ w' = W) :
    Calls Tryd.prog 62 #[.agg #[.slice (some ⟨b, o, none⟩) n c, .int .i64 0], .int .i64 most] w fun r w' => r = .returned (.tuple #[.agg #[.slice none 0 0, .int .i64 4], .string ⟨#[]⟩]) ∧ Below w.heap.size w w' := by
  have hbl : b < w.heap.size := World.block_lt_of_cell? w ⟨b, o, none⟩ hx
  have hx1 : ∀ o1 o2, ((w.alloc o1).alloc o2).cell? ⟨b, o, none⟩ = some (.int .u8 x) := fun o1 o2 => by
    rw [(((Below.refl w.heap.size w).alloc (Nat.le_refl _) o1).alloc (by simp) o2).cell (p := ⟨b, o, none⟩) hbl]; exact hx
  have hnz : ((n : Int) == 0) = false := by rw [beq_eq_false_iff_ne]; omega
  have HU := Lib.hid U
  have HN := Lib.hid N
  clear U N
  go_enter Tryd.func62, Tryd.ntmps62
  go_wp2_with (first
    | (go_at_call 60; refine (HU.out _ _).mono ?_; rintro r w0 ⟨rfl, rfl⟩)
    | (go_at_call 61; refine (HN.out _).mono ?_; rintro r w0 ⟨⟨y, rfl⟩, rfl⟩)
    | (go_at_call 59; refine (stop_any 4 _).mono ?_; rintro r w1 ⟨rfl, hb1⟩; refine Hid.out ?_))
  refine Lib.hid ?_
  have hb := hb1
  simp only [World.size_alloc] at hb
  obtain ⟨hcl, hfz⟩ := bcell hb1
  have hsz := hb1.size
  simp only [World.size_alloc] at hsz hcl hfz
  clear hb1
  go_wp2
  have hB : Below w.heap.size w w1 := ((((Below.refl w.heap.size w).alloc (Nat.le_refl _) _).alloc (by simp) _).trans (hb.mono (by omega)))
  exact bodyPost_ret (v := .tuple #[.agg #[.slice none 0 0, .int .i64 4], .string ⟨#[]⟩]) (by simp [results, Tryd.results62, go_sem, hcl]) rfl ⟨rfl, (hB.setCell (by simp) _).setCell (by simp) _⟩

set_option maxHeartbeats 1000000 in
theorem refrText_great (b o n c : Nat) (x most : Int) (w : World) (hn : 1 ≤ n) (hx : w.cell? ⟨b, o, none⟩ = some (.int .u8 x)) (h1 : ¬ x < 48) (h2 : ¬ 57 < x) (st : ByteArray) (k : Nat) (hst : st.size = k) (hk : k ≤ 10) (U : ∀ o1 o2, Calls Tryd.prog 60 #[.slice (some ⟨b, o, none⟩) n c, .int .u8 58, .int .i64 10] ((w.alloc o1).alloc o2) fun r w' => r = .returned (.tuple #[.string st, .int .i64 0]) ∧ w' = (w.alloc o1).alloc o2) (a4 : Option Addr) (n4 c4 : Nat) (hs4 : ∀ W, (Instr.slice 30 (.slice (some ⟨b, o, none⟩) n c) (some (.int .i64 ((k : Int) + 1))) none none).run Tryd.prog W = .ok (.slice a4 n4 c4) W) (v : Int) (N : ∀ W, Calls Tryd.prog 61 #[.string st] W fun r w' => r = .returned (.tuple #[.int .i64 v, .bool true]) ∧ w' = W) (hg : 1000000000 < v) :
    Calls Tryd.prog 62 #[.agg #[.slice (some ⟨b, o, none⟩) n c, .int .i64 0], .int .i64 most] w fun r w' => r = .returned (.tuple #[.agg #[.slice none 0 0, .int .i64 4], .string ⟨#[]⟩]) ∧ Below w.heap.size w w' := by
  have hbl : b < w.heap.size := World.block_lt_of_cell? w ⟨b, o, none⟩ hx
  have hx1 : ∀ o1 o2, ((w.alloc o1).alloc o2).cell? ⟨b, o, none⟩ = some (.int .u8 x) := fun o1 o2 => by
    rw [(((Below.refl w.heap.size w).alloc (Nat.le_refl _) o1).alloc (by simp) o2).cell (p := ⟨b, o, none⟩) hbl]; exact hx
  have hnz : ((n : Int) == 0) = false := by rw [beq_eq_false_iff_ne]; omega
  have HU := Lib.hid U
  have HN := Lib.hid N
  clear U N
  go_enter Tryd.func62, Tryd.ntmps62
  go_wp2_with (first
    | (go_at_call 60; refine (HU.out _ _).mono ?_; rintro r w0 ⟨rfl, rfl⟩)
    | (go_at_call 61; refine (HN.out _).mono ?_; rintro r w0 ⟨rfl, rfl⟩)
    | (go_at_call 59; refine (stop_any 4 _).mono ?_; rintro r w1 ⟨rfl, hb1⟩; refine Hid.out ?_))
  refine Lib.hid ?_
  have hb := hb1
  simp only [World.size_alloc] at hb
  obtain ⟨hcl, hfz⟩ := bcell hb1
  have hsz := hb1.size
  simp only [World.size_alloc] at hsz hcl hfz
  clear hb1
  go_wp2
  have hB : Below w.heap.size w w1 := ((((Below.refl w.heap.size w).alloc (Nat.le_refl _) _).alloc (by simp) _).trans (hb.mono (by omega)))
  exact bodyPost_ret (v := .tuple #[.agg #[.slice none 0 0, .int .i64 4], .string ⟨#[]⟩]) (by simp [results, Tryd.results62, go_sem, hcl]) rfl ⟨rfl, (hB.setCell (by simp) _).setCell (by simp) _⟩

set_option maxHeartbeats 1000000 in
theorem refrText_most (b o n c : Nat) (x most : Int) (w : World) (hn : 1 ≤ n) (hx : w.cell? ⟨b, o, none⟩ = some (.int .u8 x)) (h1 : ¬ x < 48) (h2 : ¬ 57 < x) (st : ByteArray) (k : Nat) (hst : st.size = k) (hk : k ≤ 10) (U : ∀ o1 o2, Calls Tryd.prog 60 #[.slice (some ⟨b, o, none⟩) n c, .int .u8 58, .int .i64 10] ((w.alloc o1).alloc o2) fun r w' => r = .returned (.tuple #[.string st, .int .i64 0]) ∧ w' = (w.alloc o1).alloc o2) (a4 : Option Addr) (n4 c4 : Nat) (hs4 : ∀ W, (Instr.slice 30 (.slice (some ⟨b, o, none⟩) n c) (some (.int .i64 ((k : Int) + 1))) none none).run Tryd.prog W = .ok (.slice a4 n4 c4) W) (v : Int) (N : ∀ W, Calls Tryd.prog 61 #[.string st] W fun r w' => r = .returned (.tuple #[.int .i64 v, .bool true]) ∧ w' = W) (hg : ¬ 1000000000 < v) (hm : most < v) :
    Calls Tryd.prog 62 #[.agg #[.slice (some ⟨b, o, none⟩) n c, .int .i64 0], .int .i64 most] w fun r w' => r = .returned (.tuple #[.agg #[.slice none 0 0, .int .i64 5], .string ⟨#[]⟩]) ∧ Below w.heap.size w w' := by
  have hbl : b < w.heap.size := World.block_lt_of_cell? w ⟨b, o, none⟩ hx
  have hx1 : ∀ o1 o2, ((w.alloc o1).alloc o2).cell? ⟨b, o, none⟩ = some (.int .u8 x) := fun o1 o2 => by
    rw [(((Below.refl w.heap.size w).alloc (Nat.le_refl _) o1).alloc (by simp) o2).cell (p := ⟨b, o, none⟩) hbl]; exact hx
  have hnz : ((n : Int) == 0) = false := by rw [beq_eq_false_iff_ne]; omega
  have HU := Lib.hid U
  have HN := Lib.hid N
  clear U N
  go_enter Tryd.func62, Tryd.ntmps62
  go_wp2_with (first
    | (go_at_call 60; refine (HU.out _ _).mono ?_; rintro r w0 ⟨rfl, rfl⟩)
    | (go_at_call 61; refine (HN.out _).mono ?_; rintro r w0 ⟨rfl, rfl⟩)
    | (go_at_call 59; refine (stop_any 5 _).mono ?_; rintro r w1 ⟨rfl, hb1⟩; refine Hid.out ?_))
  refine Lib.hid ?_
  have hb := hb1
  simp only [World.size_alloc] at hb
  obtain ⟨hcl, hfz⟩ := bcell hb1
  have hsz := hb1.size
  simp only [World.size_alloc] at hsz hcl hfz
  clear hb1
  go_wp2
  have hB : Below w.heap.size w w1 := ((((Below.refl w.heap.size w).alloc (Nat.le_refl _) _).alloc (by simp) _).trans (hb.mono (by omega)))
  exact bodyPost_ret (v := .tuple #[.agg #[.slice none 0 0, .int .i64 5], .string ⟨#[]⟩]) (by simp [results, Tryd.results62, go_sem, hcl]) rfl ⟨rfl, (hB.setCell (by simp) _).setCell (by simp) _⟩

set_option maxHeartbeats 1000000 in
theorem refrText_short (b o n c : Nat) (x most : Int) (w : World) (hn : 1 ≤ n) (hx : w.cell? ⟨b, o, none⟩ = some (.int .u8 x)) (h1 : ¬ x < 48) (h2 : ¬ 57 < x) (st : ByteArray) (k : Nat) (hst : st.size = k) (hk : k ≤ 10) (U : ∀ o1 o2, Calls Tryd.prog 60 #[.slice (some ⟨b, o, none⟩) n c, .int .u8 58, .int .i64 10] ((w.alloc o1).alloc o2) fun r w' => r = .returned (.tuple #[.string st, .int .i64 0]) ∧ w' = (w.alloc o1).alloc o2) (a4 : Option Addr) (n4 c4 : Nat) (hs4 : ∀ W, (Instr.slice 30 (.slice (some ⟨b, o, none⟩) n c) (some (.int .i64 ((k : Int) + 1))) none none).run Tryd.prog W = .ok (.slice a4 n4 c4) W) (v : Int) (N : ∀ W, Calls Tryd.prog 61 #[.string st] W fun r w' => r = .returned (.tuple #[.int .i64 v, .bool true]) ∧ w' = W) (hg : ¬ 1000000000 < v) (hm : ¬ most < v) (hs : (n4 : Int) < v) :
    Calls Tryd.prog 62 #[.agg #[.slice (some ⟨b, o, none⟩) n c, .int .i64 0], .int .i64 most] w fun r w' => r = .returned (.tuple #[.agg #[.slice none 0 0, .int .i64 3], .string ⟨#[]⟩]) ∧ Below w.heap.size w w' := by
  have hbl : b < w.heap.size := World.block_lt_of_cell? w ⟨b, o, none⟩ hx
  have hx1 : ∀ o1 o2, ((w.alloc o1).alloc o2).cell? ⟨b, o, none⟩ = some (.int .u8 x) := fun o1 o2 => by
    rw [(((Below.refl w.heap.size w).alloc (Nat.le_refl _) o1).alloc (by simp) o2).cell (p := ⟨b, o, none⟩) hbl]; exact hx
  have hnz : ((n : Int) == 0) = false := by rw [beq_eq_false_iff_ne]; omega
  have HU := Lib.hid U
  have HN := Lib.hid N
  clear U N
  go_enter Tryd.func62, Tryd.ntmps62
  go_wp2_with (first
    | (go_at_call 60; refine (HU.out _ _).mono ?_; rintro r w0 ⟨rfl, rfl⟩)
    | (go_at_call 61; refine (HN.out _).mono ?_; rintro r w0 ⟨rfl, rfl⟩)
    | (go_at_call 59; refine (stop_any 3 _).mono ?_; rintro r w1 ⟨rfl, hb1⟩; refine Hid.out ?_))
  refine Lib.hid ?_
  have hb := hb1
  simp only [World.size_alloc] at hb
  obtain ⟨hcl, hfz⟩ := bcell hb1
  have hsz := hb1.size
  simp only [World.size_alloc] at hsz hcl hfz
  clear hb1
  go_wp2
  have hB : Below w.heap.size w w1 := ((((Below.refl w.heap.size w).alloc (Nat.le_refl _) _).alloc (by simp) _).trans (hb.mono (by omega)))
  exact bodyPost_ret (v := .tuple #[.agg #[.slice none 0 0, .int .i64 3], .string ⟨#[]⟩]) (by simp [results, Tryd.results62, go_sem, hcl]) rfl ⟨rfl, (hB.setCell (by simp) _).setCell (by simp) _⟩

set_option maxHeartbeats 2000000 in
set_option maxRecDepth 100000 in
theorem refrText_ok (b o n c : Nat) (x most : Int) (w : World) (hn : 1 ≤ n) (hx : w.cell? ⟨b, o, none⟩ = some (.int .u8 x)) (h1 : ¬ x < 48) (h2 : ¬ 57 < x) (st : ByteArray) (k : Nat) (hst : st.size = k) (hk : k ≤ 10) (U : ∀ o1 o2, Calls Tryd.prog 60 #[.slice (some ⟨b, o, none⟩) n c, .int .u8 58, .int .i64 10] ((w.alloc o1).alloc o2) fun r w' => r = .returned (.tuple #[.string st, .int .i64 0]) ∧ w' = (w.alloc o1).alloc o2) (a4 : Option Addr) (n4 c4 : Nat) (hs4 : ∀ W, (Instr.slice 30 (.slice (some ⟨b, o, none⟩) n c) (some (.int .i64 ((k : Int) + 1))) none none).run Tryd.prog W = .ok (.slice a4 n4 c4) W) (j : Nat) (N : ∀ W, Calls Tryd.prog 61 #[.string st] W fun r w' => r = .returned (.tuple #[.int .i64 (j : Int), .bool true]) ∧ w' = W) (hg : ¬ 1000000000 < (j : Int)) (hm : ¬ most < (j : Int)) (hs : ¬ (n4 : Int) < (j : Int))
    (a5 : Option Addr) (n5 c5 : Nat) (hs5 : ∀ W, (Instr.slice 30 (.slice a4 n4 c4) (some (.int .i64 (j : Int))) none none).run Tryd.prog W = .ok (.slice a5 n5 c5) W) (hs6 : ∀ W, (Instr.slice 30 (.slice a4 n4 c4) none (some (.int .i64 (j : Int))) none).run Tryd.prog W = .ok (.slice a4 j c4) W)
    (q : ByteArray) (hcv : ∀ W, Below w.heap.size w W → (convert 30 9 (.slice a4 j c4)).run Tryd.prog W = .ok (.string q) W) :
    Calls Tryd.prog 62 #[.agg #[.slice (some ⟨b, o, none⟩) n c, .int .i64 0], .int .i64 most] w fun r w' => r = .returned (.tuple #[.agg #[.slice a5 n5 c5, .int .i64 0], .string q]) ∧ Below w.heap.size w w' := by
  have hbl : b < w.heap.size := World.block_lt_of_cell? w ⟨b, o, none⟩ hx
  have hx1 : ∀ o1 o2, ((w.alloc o1).alloc o2).cell? ⟨b, o, none⟩ = some (.int .u8 x) := fun o1 o2 => by
    rw [(((Below.refl w.heap.size w).alloc (Nat.le_refl _) o1).alloc (by simp) o2).cell (p := ⟨b, o, none⟩) hbl]; exact hx
  have hnz : ((n : Int) == 0) = false := by rw [beq_eq_false_iff_ne]; omega
  have HU := Lib.hid U
  have HN := Lib.hid N
  clear U N
  have HCV := Lib.hid hcv
  clear hcv
  go_enter Tryd.func62, Tryd.ntmps62
  go_wp2_with (first
    | (go_at_call 60; refine (HU.out _ _).mono ?_; rintro r w0 ⟨rfl, rfl⟩)
    | (go_at_call 61; refine (HN.out _).mono ?_; rintro r w0 ⟨rfl, rfl⟩))
  go_region_held3 (fun w' => (convert 30 9 (.slice a4 j c4)).run Tryd.prog w' = .ok (.string q) w') (first | go_keep | (exact HCV.out _ (by repeat (first | exact Below.refl _ _ | refine Below.setCell ?_ (by simp) _ | refine below_drewN ?_ _ | refine Below.drew ?_ | refine Below.alloc ?_ (by simp) _))))
    (fail)
  go_wp2
  exact bodyPost_ret (v := .tuple #[.agg #[.slice a5 n5 c5, .int .i64 0], .string q]) (by simp [results, Tryd.results62, go_sem]) rfl ⟨rfl, by repeat (first | exact Below.refl _ _ | refine Below.setCell ?_ (by simp) _ | refine below_drewN ?_ _ | refine Below.drew ?_ | refine Below.alloc ?_ (by simp) _)⟩

end Go.Proofs.YtchhdffehkcecaaDoor
