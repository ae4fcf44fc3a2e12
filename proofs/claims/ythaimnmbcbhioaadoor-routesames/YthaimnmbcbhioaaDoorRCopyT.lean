/-
  What slices.Clone does at routes, rules, matchers and texts.
-/
import Derived.Test.YthaimnmbcbhioaaDoorRCopy
import Derived.WalkSpells
namespace Go.Proofs.YthaimnmbcbhioaaDoor
open Go.RowKit

theorem rts_news {w : World} {a : Option Addr} {l : List Rt} (h : RtsAt w a l) : ∀ ad, a = some ad → ∀ j u, (l.flatMap encR)[j]? = some u → w.cell? (ad.add j) = some u := fun ad e j u hj => by
  obtain ⟨hi, hu⟩ := flat_at encR_len (by decide) l hj
  obtain ⟨b, o, e2, -, hc⟩ := h (by omega)
  obtain rfl : ad = ⟨b, o, none⟩ := Option.some.inj (e.symm.trans e2)
  rw [Go.WideShapes.add_plain, show o + j = o + j / 8 * 8 + j % 8 by omega]
  exact (hc (j / 8) hi).1 _ _ hu
theorem rls_news {w : World} {a : Option Addr} {l : List Rl} (h : RlsAt w a l) : ∀ ad, a = some ad → ∀ j u, (l.flatMap encL)[j]? = some u → w.cell? (ad.add j) = some u := fun ad e j u hj => by
  obtain ⟨hi, hu⟩ := flat_at encL_len (by decide) l hj
  obtain ⟨b, o, e2, -, hc⟩ := h (by omega)
  obtain rfl : ad = ⟨b, o, none⟩ := Option.some.inj (e.symm.trans e2)
  rw [Go.WideShapes.add_plain, show o + j = o + j / 3 * 3 + j % 3 by omega]
  exact (hc (j / 3) hi).1 _ _ hu
theorem rts_one {l : List Rt} : ∀ u ∈ l.flatMap encR, u.oneCell' = true := fun u h => by
  obtain ⟨r, -, h2⟩ := List.mem_flatMap.1 h
  exact encR_one u h2
theorem rls_one {l : List Rl} : ∀ u ∈ l.flatMap encL, u.oneCell' = true := fun u h => by
  obtain ⟨r, -, h2⟩ := List.mem_flatMap.1 h
  exact encL_one u h2

set_option maxRecDepth 20000 in
set_option maxHeartbeats 2000000 in
theorem cloneM_any (q : Option Addr) (c : Nat) (l : List Mt) (w : World) (h : MtsAt w q l) (hnil : q = none → c = 0) (hn : l.length ≤ 1000) :
    Calls Tryd.prog 28 #[.slice q l.length c] w fun e w' => (∃ v, e = .returned v ∧ w'.ownsRow w.heap.size 36 3 v l.length (rowM l)) ∧ Below w.heap.size w w' := by
  obtain ⟨i0, hi, hi0, hi1, hi2⟩ := info_cut infoMt
  have kM : maxLen = 9223372036854775807 := rfl
  have hq : ∀ (w : World) (a : Option Addr) (n c n' c' : Nat), (binOp .eql 30 (.slice a n c) (.slice none n' c')).run Tryd.prog w = .ok (.bool a.isNone) w := fun w a n c n' c' => Lib.run_eql_slice_nil w _ _ a n c n' c' Tryd.underlying30
  cases q with
  | none =>
    have h0 : l.length = 0 := by
      by_cases hp : 0 < l.length
      · obtain ⟨b, o, he, -⟩ := h hp
        cases he
      · omega
    obtain rfl := hnil rfl
    obtain rfl := List.eq_nil_of_length_eq_zero h0
    clear h h0 hnil
    go_enter Tryd.func28, Tryd.ntmps28
    go_wp2
    go_ret
    exact ⟨⟨_, rfl, World.ownsRow_nil _ _ _ _⟩, Below.refl _ _⟩
  | some ad =>
    have d1 := (Below.refl w.heap.size w).alloc (Nat.le_refl _) (.cells #[] 36)
    have HG : Hid ((w.alloc (.cells #[] 36)).heap[w.heap.size]? = some (.cells #[] 36 (0, 0))) := Lib.hid (heap_new w _)
    have HN := Lib.hid (mts_news (h.below d1 (Nat.le_refl _)))
    have D1 := Lib.hid d1
    have S1 : Hid ((w.alloc (.cells #[] 36)).heap.size = w.heap.size + 1) := Lib.hid (by simp)
    clear h hnil d1
    go_enter Tryd.func28, Tryd.ntmps28
    go_wp2_with (at_builtin; refine wpList_clone 30 36 i0 _ 3 40 Tryd.underlying30 hi hi0 hi1 hi2 rfl (by decide) rfl _ _ rfl w.heap.size w.heap.size rfl HG.out (Nat.le_refl _) (some ad) l.length c (rowM l) rfl (flat_len encM_len _) HN.out rowM_one (fun e => by cases e) (by omega) (by omega) ?_; refine Hid.out ?_)
    refine Lib.hid ?_
    intro v w1 own q1
    rw [← S1.out] at q1
    have HO := Lib.hid own
    have E1 := Lib.hid (D1.out.trans (q1.mono D1.out.size))
    clear own q1 HG HN D1 S1
    go_wp2
    go_ret
    exact ⟨⟨_, rfl, HO.out⟩, E1.out⟩

set_option maxRecDepth 20000 in
set_option maxHeartbeats 2000000 in
theorem cloneS_any (q : Option Addr) (c : Nat) (l : List ByteArray) (w : World) (h : StrsAt w q l) (hnil : q = none → c = 0) (hn : l.length ≤ 1000) :
    Calls Tryd.prog 29 #[.slice q l.length c] w fun e w' => (∃ v, e = .returned v ∧ w'.ownsRow w.heap.size 9 1 v l.length (l.map Value.string)) ∧ Below w.heap.size w w' := by
  obtain ⟨i0, hi, hi0, hi1, hi2⟩ := info_cut infoSt
  have kM : maxLen = 9223372036854775807 := rfl
  have hq : ∀ (w : World) (a : Option Addr) (n c n' c' : Nat), (binOp .eql 31 (.slice a n c) (.slice none n' c')).run Tryd.prog w = .ok (.bool a.isNone) w := fun w a n c n' c' => Lib.run_eql_slice_nil w _ _ a n c n' c' Tryd.underlying31
  cases q with
  | none =>
    have h0 : l.length = 0 := by
      by_cases hp : 0 < l.length
      · obtain ⟨b, o, he, -⟩ := h hp
        cases he
      · omega
    obtain rfl := hnil rfl
    obtain rfl := List.eq_nil_of_length_eq_zero h0
    clear h h0 hnil
    go_enter Tryd.func29, Tryd.ntmps29
    go_wp2
    go_ret
    exact ⟨⟨_, rfl, World.ownsRow_nil _ _ _ _⟩, Below.refl _ _⟩
  | some ad =>
    have d1 := (Below.refl w.heap.size w).alloc (Nat.le_refl _) (.cells #[] 9)
    have HG : Hid ((w.alloc (.cells #[] 9)).heap[w.heap.size]? = some (.cells #[] 9 (0, 0))) := Lib.hid (heap_new w _)
    have HN := Lib.hid (strs_news (h.below d1 (Nat.le_refl _)))
    have D1 := Lib.hid d1
    have S1 : Hid ((w.alloc (.cells #[] 9)).heap.size = w.heap.size + 1) := Lib.hid (by simp)
    clear h hnil d1
    go_enter Tryd.func29, Tryd.ntmps29
    go_wp2_with (at_builtin; refine wpList_clone 31 9 i0 _ 1 16 Tryd.underlying31 hi hi0 hi1 hi2 rfl (by decide) rfl _ _ rfl w.heap.size w.heap.size rfl HG.out (Nat.le_refl _) (some ad) l.length c (l.map Value.string) rfl (by simp) HN.out strs_one (fun e => by cases e) (by omega) (by omega) ?_; refine Hid.out ?_)
    refine Lib.hid ?_
    intro v w1 own q1
    rw [← S1.out] at q1
    have HO := Lib.hid own
    have E1 := Lib.hid (D1.out.trans (q1.mono D1.out.size))
    clear own q1 HG HN D1 S1
    go_wp2
    go_ret
    exact ⟨⟨_, rfl, HO.out⟩, E1.out⟩

set_option maxRecDepth 20000 in
set_option maxHeartbeats 2000000 in
theorem cloneR_any (q : Option Addr) (c : Nat) (l : List Rt) (w : World) (h : RtsAt w q l) (hnil : q = none → c = 0) (hn : l.length ≤ 1000) :
    Calls Tryd.prog 27 #[.slice q l.length c] w fun e w' => (∃ v, e = .returned v ∧ w'.ownsRow w.heap.size 33 8 v l.length (l.flatMap encR)) ∧ Below w.heap.size w w' := by
  obtain ⟨i0, hi, hi0, hi1, hi2⟩ := info_cut infoRt
  have kM : maxLen = 9223372036854775807 := rfl
  have hq : ∀ (w : World) (a : Option Addr) (n c n' c' : Nat), (binOp .eql 22 (.slice a n c) (.slice none n' c')).run Tryd.prog w = .ok (.bool a.isNone) w := fun w a n c n' c' => Lib.run_eql_slice_nil w _ _ a n c n' c' Tryd.underlying22
  cases q with
  | none =>
    have h0 : l.length = 0 := by
      by_cases hp : 0 < l.length
      · obtain ⟨b, o, he, -⟩ := h hp
        cases he
      · omega
    obtain rfl := hnil rfl
    obtain rfl := List.eq_nil_of_length_eq_zero h0
    clear h h0 hnil
    go_enter Tryd.func27, Tryd.ntmps27
    go_wp2
    go_ret
    exact ⟨⟨_, rfl, World.ownsRow_nil _ _ _ _⟩, Below.refl _ _⟩
  | some ad =>
    have d1 := (Below.refl w.heap.size w).alloc (Nat.le_refl _) (.cells #[] 33)
    have HG : Hid ((w.alloc (.cells #[] 33)).heap[w.heap.size]? = some (.cells #[] 33 (0, 0))) := Lib.hid (heap_new w _)
    have HN := Lib.hid (rts_news (h.below d1 (Nat.le_refl _)))
    have D1 := Lib.hid d1
    have S1 : Hid ((w.alloc (.cells #[] 33)).heap.size = w.heap.size + 1) := Lib.hid (by simp)
    clear h hnil d1
    go_enter Tryd.func27, Tryd.ntmps27
    go_wp2_with (at_builtin; refine wpList_clone 22 33 i0 _ 8 104 Tryd.underlying22 hi hi0 hi1 hi2 rfl (by decide) rfl _ _ rfl w.heap.size w.heap.size rfl HG.out (Nat.le_refl _) (some ad) l.length c (l.flatMap encR) rfl (flat_len encR_len _) HN.out rts_one (fun e => by cases e) (by omega) (by omega) ?_; refine Hid.out ?_)
    refine Lib.hid ?_
    intro v w1 own q1
    rw [← S1.out] at q1
    have HO := Lib.hid own
    have E1 := Lib.hid (D1.out.trans (q1.mono D1.out.size))
    clear own q1 HG HN D1 S1
    go_wp2
    go_ret
    exact ⟨⟨_, rfl, HO.out⟩, E1.out⟩

set_option maxRecDepth 20000 in
set_option maxHeartbeats 2000000 in
theorem cloneL_any (q : Option Addr) (c : Nat) (l : List Rl) (w : World) (h : RlsAt w q l) (hnil : q = none → c = 0) (hn : l.length ≤ 1000) :
    Calls Tryd.prog 30 #[.slice q l.length c] w fun e w' => (∃ v, e = .returned v ∧ w'.ownsRow w.heap.size 38 3 v l.length (l.flatMap encL)) ∧ Below w.heap.size w w' := by
  obtain ⟨i0, hi, hi0, hi1, hi2⟩ := info_cut infoRl
  have kM : maxLen = 9223372036854775807 := rfl
  have hq : ∀ (w : World) (a : Option Addr) (n c n' c' : Nat), (binOp .eql 23 (.slice a n c) (.slice none n' c')).run Tryd.prog w = .ok (.bool a.isNone) w := fun w a n c n' c' => Lib.run_eql_slice_nil w _ _ a n c n' c' Tryd.underlying23
  cases q with
  | none =>
    have h0 : l.length = 0 := by
      by_cases hp : 0 < l.length
      · obtain ⟨b, o, he, -⟩ := h hp
        cases he
      · omega
    obtain rfl := hnil rfl
    obtain rfl := List.eq_nil_of_length_eq_zero h0
    clear h h0 hnil
    go_enter Tryd.func30, Tryd.ntmps30
    go_wp2
    go_ret
    exact ⟨⟨_, rfl, World.ownsRow_nil _ _ _ _⟩, Below.refl _ _⟩
  | some ad =>
    have d1 := (Below.refl w.heap.size w).alloc (Nat.le_refl _) (.cells #[] 38)
    have HG : Hid ((w.alloc (.cells #[] 38)).heap[w.heap.size]? = some (.cells #[] 38 (0, 0))) := Lib.hid (heap_new w _)
    have HN := Lib.hid (rls_news (h.below d1 (Nat.le_refl _)))
    have D1 := Lib.hid d1
    have S1 : Hid ((w.alloc (.cells #[] 38)).heap.size = w.heap.size + 1) := Lib.hid (by simp)
    clear h hnil d1
    go_enter Tryd.func30, Tryd.ntmps30
    go_wp2_with (at_builtin; refine wpList_clone 23 38 i0 _ 3 72 Tryd.underlying23 hi hi0 hi1 hi2 rfl (by decide) rfl _ _ rfl w.heap.size w.heap.size rfl HG.out (Nat.le_refl _) (some ad) l.length c (l.flatMap encL) rfl (flat_len encL_len _) HN.out rls_one (fun e => by cases e) (by omega) (by omega) ?_; refine Hid.out ?_)
    refine Lib.hid ?_
    intro v w1 own q1
    rw [← S1.out] at q1
    have HO := Lib.hid own
    have E1 := Lib.hid (D1.out.trans (q1.mono D1.out.size))
    clear own q1 HG HN D1 S1
    go_wp2
    go_ret
    exact ⟨⟨_, rfl, HO.out⟩, E1.out⟩

end Go.Proofs.YthaimnmbcbhioaaDoor
