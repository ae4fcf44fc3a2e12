/-
  An item, and a set, as the program reads them.
-/
import Derived.Test.YtcngifkoopcmeaaGreatDoorK03
import Derived.Deep.LoopGhost
namespace Go.Proofs.YtcngifkoopcmeaaGreatDoor
open Go.RowKit

/-- Some blocks may have turned, and new ones may be there: nothing else. -/
structure Chg (S : Nat → Prop) (w w' : World) : Prop where
  os : w'.os = w.os
  tape : w'.tape = w.tape
  output : w'.output = w.output
  size : w.heap.size ≤ w'.heap.size
  block : ∀ k, k < w.heap.size → ¬ S k → w'.heap[k]? = w.heap[k]?

theorem Chg.refl (S : Nat → Prop) (w : World) : Chg S w w := ⟨rfl, rfl, rfl, Nat.le_refl _, fun _ _ _ => rfl⟩
theorem Chg.trans {S : Nat → Prop} {a b c : World} (h : Chg S a b) (k : Chg S b c) : Chg S a c :=
  ⟨k.os.trans h.os, k.tape.trans h.tape, k.output.trans h.output, Nat.le_trans h.size k.size, fun i hi hs => (k.block i (Nat.lt_of_lt_of_le hi h.size) hs).trans (h.block i hi hs)⟩
theorem Chg.mono {S S' : Nat → Prop} {a b : World} (h : Chg S a b) (hs : ∀ k, k < a.heap.size → S k → S' k) : Chg S' a b := ⟨h.os, h.tape, h.output, h.size, fun i hi hn => h.block i hi fun h1 => hn (hs i hi h1)⟩
theorem Chg.of_grown {w w' : World} {r : Nat} (h : w.grownBy w' (some r)) : Chg (· = r) w w' := ⟨h.os, h.tape, h.output, h.size, fun i hi hn => h.block i hi (by simpa using hn)⟩
theorem Chg.of_below {S : Nat → Prop} {w w' : World} (h : Below w.heap.size w w') : Chg S w w' := ⟨h.os, h.tape, h.output, h.size, fun i hi _ => h.block i hi⟩
theorem Chg.grown {w w' : World} {r : Nat} (h : Chg (· = r) w w') : w.grownBy w' (some r) := ⟨h.os, h.tape, h.output, h.size, fun i hi hn => h.block i hi (by simpa using hn)⟩
theorem Chg.below {S : Nat → Prop} {w w' : World} {B : Nat} (h : Chg S w w') (hs : ∀ k, k < w.heap.size → S k → B ≤ k) (hB : B ≤ w.heap.size) : Below B w w' := ⟨h.os, h.tape, h.output, h.size, fun i hi => h.block i (Nat.lt_of_lt_of_le hi hB) fun h1 => by have := hs i (Nat.lt_of_lt_of_le hi hB) h1; omega⟩

theorem Chg.drew {S : Nat → Prop} {w w' : World} (h : Chg S w w') : Chg S w w'.drew := ⟨h.os, h.tape, h.output, h.size, h.block⟩
theorem Chg.drewN {S : Nat → Prop} {w w' : World} (h : Chg S w w') (n : Nat) : Chg S w (w'.drewN n) := ⟨h.os, h.tape, h.output, h.size, h.block⟩
theorem Chg.from {S : Nat → Prop} {w w' : World} {n : Nat} (h : Chg S (w.drewN n) w') : Chg S w w' := ⟨h.os, h.tape, h.output, h.size, h.block⟩
theorem Chg.fromD {S : Nat → Prop} {w w' : World} (h : Chg S w.drew w') : Chg S w w' := ⟨h.os, h.tape, h.output, h.size, h.block⟩
theorem XdBlk.chg {S : Nat → Prop} {w w' : World} {rb xb : Nat} {s : ByteArray} {k : Nat} (h : XdBlk w rb xb s k) (hc : Chg S w w') (hn : ¬ S rb) : XdBlk w' rb xb s k := (hc.block rb h.lt hn).trans h
theorem SetBlk.chg {S : Nat → Prop} {w w' : World} {sb : Nat} {W : Nat → Nat} (h : SetBlk w sb W) (hc : Chg S w w') (hn : ¬ S sb) : SetBlk w' sb W := (hc.block sb h.lt hn).trans h

theorem u8_gt {a b : UInt8} (h : b < a) : ((b.toNat : Nat) : Int) < ((a.toNat : Nat) : Int) := by rw [UInt8.lt_iff_toNat_lt] at h; omega
theorem u8_le {a b : UInt8} (h : ¬ b < a) : ¬ ((b.toNat : Nat) : Int) < ((a.toNat : Nat) : Int) := by rw [UInt8.lt_iff_toNat_lt] at h; omega

theorem range_form {l : List UInt8} (h : rangeB l = true) : ∃ c r, l = c :: r := by
  match l with
  | [] => cases h
  | c :: r => exact ⟨c, r, rfl⟩

set_option maxHeartbeats 1000000 in
theorem item_no (rb xb : Nat) (s : ByteArray) (k : Nat) (l : List UInt8) (sb : Nat) (T : BSet) (w : World) (h : XdBlk w rb xb s k) (hl : Left s k l) (hp : pItem T l = none) :
    Calls Tryz.prog 234 #[.pointer (some ⟨rb, 0, none⟩), .pointer (some ⟨sb, 0, none⟩)] w fun e w' => e = gaveUp ∧ w.grownBy w' (some rb) := by
  unfold pItem at hp
  split at hp
  · rename_i h1
    have HB := Lib.hid (setByte_no rb xb s k l w h hl h1)
    clear h hl h1 hp
    go_enter Tryz.func234, Tryz.ntmps234
    go_wp2_with (go_at_call 236; refine HB.out.mono ?_; rintro e w1 ⟨rfl, hg⟩)
    exact ⟨rfl, rfl, hg⟩
  · rename_i a l1 h1
    have HB := Lib.hid (setByte_ok rb xb s k l a l1 w h hl h1)
    clear h hl h1
    split at hp
    · rename_i hr
      have HR := Lib.hid hr
      obtain ⟨d, r, rfl⟩ := range_form hr
      clear hr
      have HP := Lib.hid hp
      clear hp
      simp only [List.drop_succ_cons, List.drop_zero] at HP
      go_enter Tryz.func234, Tryz.ntmps234
      go_wp2_with (go_at_call 236; refine HB.out.mono ?_; rintro e w1 ⟨rfl, k1, hr1, hl1, hg1⟩; refine Hid.out ?_)
      refine Lib.hid ?_
      have HS := seesRange_any rb xb s k1 _ w1 hr1 hl1
      rw [HR.out] at HS
      go_wp2_with (go_at_call 237; refine HS.mono ?_; rintro e w2 ⟨rfl, n, rfl⟩; refine Hid.out ?_)
      refine Lib.hid ?_
      clear HS
      have c2 : (w1.drewN n).cell? ⟨rb, 2, none⟩ = _ := hr1.cell2
      have f2 : (w1.drewN n).frozen? ⟨rb, 2, none⟩ = _ := hr1.frozen 2
      have hk1 := hl1.eq
      have hle := hl1.le
      have hkb : (k1 : Int) ≤ 64 := by omega
      have hr2 : XdBlk ((w1.drewN n).setCell ⟨rb, 2, none⟩ (.int .i64 ((k1 : Int) + 1))) rb xb s (k1 + 1) := hr1.set2 (k1 + 1)
      have hg2 : w.grownBy ((w1.drewN n).setCell ⟨rb, 2, none⟩ (.int .i64 ((k1 : Int) + 1))) (some rb) := grown_like (xgrown_trans hg1 (xgrown_setCell w1 rb 2 _)) rfl rfl rfl rfl
      have hl2 := hl1.next
      clear hk1
      go_wp2_with (go_at_call 236; refine Hid.out ?_)
      refine Lib.hid ?_
      generalize (w1.drewN n).setCell ⟨rb, 2, none⟩ (.int .i64 ((k1 : Int) + 1)) = w2 at hr2 hg2 ⊢
      clear c2 f2 hr1 hg1
      have hp := HP.out
      split at hp
      · rename_i h2
        refine (setByte_no rb xb s (k1 + 1) r w2 hr2 hl2 h2).mono ?_
        rintro e w3 ⟨rfl, hg3⟩
        clear hp h2 HP HR
        go_wp2
        exact ⟨rfl, rfl, xgrown_trans hg2 hg3⟩
      · rename_i b l2 h2
        refine (setByte_ok rb xb s (k1 + 1) r b l2 w2 hr2 hl2 h2).mono ?_
        rintro e w3 ⟨rfl, k3, hr3, hl3, hg3⟩
        split at hp
        · rename_i hlt
          have hgt := u8_gt hlt
          clear hp h2 HP HR hlt
          go_wp2_with (go_at_call 188; refine (giveUp_any _).mono ?_; rintro e w4 ⟨rfl, rfl⟩)
          exact ⟨rfl, rfl, xgrown_trans hg2 hg3⟩
        · cases hp
    · cases hp

set_option maxHeartbeats 1000000 in
theorem item_ok (rb xb : Nat) (s : ByteArray) (k : Nat) (l : List UInt8) (sb : Nat) (W : Nat → Nat) (T : BSet) (l' : List UInt8) (w : World) (h : XdBlk w rb xb s k) (hl : Left s k l) (hs : SetBlk w sb W) (hW : ∀ i, i < 4 → W i < 18446744073709551616) (hne : rb ≠ sb) (hp : pItem (hasW W) l = some (T, l')) :
    Calls Tryz.prog 234 #[.pointer (some ⟨rb, 0, none⟩), .pointer (some ⟨sb, 0, none⟩)] w fun e w' => e = .returned (.tuple #[]) ∧ ∃ k' W', XdBlk w' rb xb s k' ∧ Left s k' l' ∧ SetBlk w' sb W' ∧ (∀ i, i < 4 → W' i < 18446744073709551616) ∧ hasW W' = T ∧ Chg (fun b => b = rb ∨ b = sb) w w' := by
  unfold pItem at hp
  split at hp
  · cases hp
  · rename_i a l1 h1
    have HB := Lib.hid (setByte_ok rb xb s k l a l1 w h hl h1)
    clear h hl h1
    have hrs : ∀ {u : World}, w.grownBy u (some rb) → SetBlk u sb W := fun hg => hs.kept hg (by simpa using Ne.symm hne)
    split at hp
    · rename_i hr
      have HR := Lib.hid hr
      obtain ⟨d, r, rfl⟩ := range_form hr
      clear hr
      have HP := Lib.hid hp
      clear hp
      simp only [List.drop_succ_cons, List.drop_zero] at HP
      go_enter Tryz.func234, Tryz.ntmps234
      go_wp2_with (go_at_call 236; refine HB.out.mono ?_; rintro e w1 ⟨rfl, k1, hr1, hl1, hg1⟩; refine Hid.out ?_)
      refine Lib.hid ?_
      have HS := seesRange_any rb xb s k1 _ w1 hr1 hl1
      rw [HR.out] at HS
      go_wp2_with (go_at_call 237; refine HS.mono ?_; rintro e w2 ⟨rfl, n, rfl⟩; refine Hid.out ?_)
      refine Lib.hid ?_
      clear HS
      have c2 : (w1.drewN n).cell? ⟨rb, 2, none⟩ = _ := hr1.cell2
      have f2 : (w1.drewN n).frozen? ⟨rb, 2, none⟩ = _ := hr1.frozen 2
      have hk1 := hl1.eq
      have hle := hl1.le
      have hkb : (k1 : Int) ≤ 64 := by omega
      have hr2 : XdBlk ((w1.drewN n).setCell ⟨rb, 2, none⟩ (.int .i64 ((k1 : Int) + 1))) rb xb s (k1 + 1) := hr1.set2 (k1 + 1)
      have hg2 : w.grownBy ((w1.drewN n).setCell ⟨rb, 2, none⟩ (.int .i64 ((k1 : Int) + 1))) (some rb) := grown_like (xgrown_trans hg1 (xgrown_setCell w1 rb 2 _)) rfl rfl rfl rfl
      have hl2 := hl1.next
      clear hk1
      go_wp2_with (go_at_call 236; refine Hid.out ?_)
      refine Lib.hid ?_
      generalize (w1.drewN n).setCell ⟨rb, 2, none⟩ (.int .i64 ((k1 : Int) + 1)) = w2 at hr2 hg2 ⊢
      clear c2 f2 hr1 hg1
      have hp := HP.out
      split at hp
      · cases hp
      · rename_i b l2 h2
        refine (setByte_ok rb xb s (k1 + 1) r b l2 w2 hr2 hl2 h2).mono ?_
        rintro e w3 ⟨rfl, k3, hr3, hl3, hg3⟩
        split at hp
        · cases hp
        · rename_i hlt
          have hgt := u8_le hlt
          injection hp with hp
          injection hp with e1 e2
          subst e1 e2
          clear h2 HP HR hlt
          have hg4 := xgrown_trans hg2 hg3
          have hs3 := hrs hg4
          go_wp2_with (go_at_call 233; refine (add_any sb W a b _ hs3 hW).mono ?_; rintro e w4 ⟨rfl, W', hs4, hw4, hh, hg5⟩)
          go_end0
          exact ⟨rfl, k3, W', hr3.chg (Chg.of_grown hg5) hne, hl3, hs4, hw4, funext hh, ((Chg.of_grown hg4).mono fun _ _ => .inl).trans ((Chg.of_grown hg5).mono fun _ _ => .inr)⟩
    · rename_i hr
      injection hp with hp
      injection hp with e1 e2
      subst e1 e2
      have HR := Lib.hid (Bool.eq_false_iff.2 hr)
      clear hr
      go_enter Tryz.func234, Tryz.ntmps234
      go_wp2_with (go_at_call 236; refine HB.out.mono ?_; rintro e w1 ⟨rfl, k1, hr1, hl1, hg1⟩; refine Hid.out ?_)
      refine Lib.hid ?_
      have HS := seesRange_any rb xb s k1 _ w1 hr1 hl1
      rw [HR.out] at HS
      have hs3 := hrs hg1
      go_wp2_with (go_at_call 237; refine HS.mono ?_; rintro e w2 ⟨rfl, n, rfl⟩; refine Hid.out ?_)
      refine Lib.hid ?_
      go_wp2_with (go_at_call 233; refine (add_any sb W a a (w1.drewN n) hs3 hW).mono ?_; rintro e w4 ⟨rfl, W', hs4, hw4, hh, hg5⟩)
      go_end0
      have hg6 : w1.grownBy w4 (some sb) := ⟨hg5.os, hg5.tape, hg5.output, hg5.size, hg5.block⟩
      exact ⟨rfl, k1, W', hr1.chg (Chg.of_grown hg6) hne, hl1, hs4, hw4, funext hh, ((Chg.of_grown hg1).mono fun _ _ => .inl).trans ((Chg.of_grown hg6).mono fun _ _ => .inr)⟩

/-- The items of a set, up to its end: as many rounds as it takes. -/
theorem pItems_step {n : Nat} {T : BSet} {l : List UInt8} : pItems (n + 1) T l = match pItem T l with | none => none | some (T', l') => if l'.head? = some 93 then some (T', l'.drop 1) else pItems n T' l' := rfl

theorem sees_head {l : List UInt8} {b : UInt8} : seesB l b = true ↔ l.head? = some b := by
  cases l with
  | nil => simp [seesB]
  | cons c l => simp [seesB]

theorem grown_from {w a : World} {n : Nat} {r : Option Nat} (h : (w.drewN n).grownBy a r) : w.grownBy a r := ⟨h.os, h.tape, h.output, h.size, h.block⟩
/-- What lies above the heap's end is no one's. -/
theorem gw4 {w a b : World} {rb sb : Nat} (h : w.grownBy a (some rb)) (hc : Chg (fun k => k = rb ∨ k = sb) a b) (hs : w.heap.size ≤ sb) : w.grownBy b (some rb) :=
  ⟨hc.os.trans h.os, hc.tape.trans h.tape, hc.output.trans h.output, Nat.le_trans h.size hc.size, fun k hk hr => (hc.block k (Nat.lt_of_lt_of_le hk h.size) (by
    rintro (e | e)
    · exact hr (by rw [e])
    · omega)).trans (h.block k hk hr)⟩
theorem hasW_zero : hasW (fun _ => 0) = noneB := by
  funext c
  simp [hasW, noneB]

theorem two_sets {w : World} {rb xb : Nat} {s : ByteArray} {k : Nat} (h : XdBlk w rb xb s k) :
    Below w.heap.size w ((w.alloc (.cells #[.int .u64 0, .int .u64 0, .int .u64 0, .int .u64 0] 260)).alloc (.cells #[.int .u64 0, .int .u64 0, .int .u64 0, .int .u64 0] 260)) ∧
    XdBlk ((w.alloc (.cells #[.int .u64 0, .int .u64 0, .int .u64 0, .int .u64 0] 260)).alloc (.cells #[.int .u64 0, .int .u64 0, .int .u64 0, .int .u64 0] 260)) rb xb s k ∧
    SetBlk ((w.alloc (.cells #[.int .u64 0, .int .u64 0, .int .u64 0, .int .u64 0] 260)).alloc (.cells #[.int .u64 0, .int .u64 0, .int .u64 0, .int .u64 0] 260)) (w.heap.size + 1) (fun _ => 0) ∧
    SetBlk ((w.alloc (.cells #[.int .u64 0, .int .u64 0, .int .u64 0, .int .u64 0] 260)).alloc (.cells #[.int .u64 0, .int .u64 0, .int .u64 0, .int .u64 0] 260)) w.heap.size (fun _ => 0) := by
  have hb : Below w.heap.size w ((w.alloc (.cells #[.int .u64 0, .int .u64 0, .int .u64 0, .int .u64 0] 260)).alloc (.cells #[.int .u64 0, .int .u64 0, .int .u64 0, .int .u64 0] 260)) := ((Below.refl _ _).alloc (Nat.le_refl _) _).alloc (by simp) _
  refine ⟨hb, h.below hb, ?_, (set_made w (fun _ => 0)).below ((Below.refl _ _).alloc (Nat.le_refl _) _)⟩
  have := set_made (w.alloc (.cells #[.int .u64 0, .int .u64 0, .int .u64 0, .int .u64 0] 260)) (fun _ => 0)
  rw [World.size_alloc] at this
  exact this
theorem sets4 {w a : World} {rb sb : Nat} {v0 v1 v2 v3 : Value} (h : w.grownBy a (some rb)) (hs : w.heap.size ≤ sb) :
    w.grownBy ((((a.setCell ⟨sb, 0, none⟩ v0).setCell ⟨sb, 1, none⟩ v1).setCell ⟨sb, 2, none⟩ v2).setCell ⟨sb, 3, none⟩ v3) (some rb) := by
  have hb : Below w.heap.size a ((((a.setCell ⟨sb, 0, none⟩ v0).setCell ⟨sb, 1, none⟩ v1).setCell ⟨sb, 2, none⟩ v2).setCell ⟨sb, 3, none⟩ v3) := ((((Below.refl _ a).setCell hs _).setCell hs _).setCell hs _).setCell hs _
  exact ⟨hb.os.trans h.os, hb.tape.trans h.tape, hb.output.trans h.output, Nat.le_trans h.size hb.size, fun k hk hr => (hb.block k hk).trans (h.block k hk hr)⟩
theorem rd4 {a : World} {rb xb sb : Nat} {s : ByteArray} {k : Nat} {v0 v1 v2 v3 : Value} (h : XdBlk a rb xb s k) (hn : rb < sb) :
    XdBlk ((((a.setCell ⟨sb, 0, none⟩ v0).setCell ⟨sb, 1, none⟩ v1).setCell ⟨sb, 2, none⟩ v2).setCell ⟨sb, 3, none⟩ v3) rb xb s k := by
  have hb : Below sb a ((((a.setCell ⟨sb, 0, none⟩ v0).setCell ⟨sb, 1, none⟩ v1).setCell ⟨sb, 2, none⟩ v2).setCell ⟨sb, 3, none⟩ v3) := ((((Below.refl sb a).setCell (p := ⟨sb, 0, none⟩) (Nat.le_refl sb) _).setCell (p := ⟨sb, 1, none⟩) (Nat.le_refl sb) _).setCell (p := ⟨sb, 2, none⟩) (Nat.le_refl sb) _).setCell (p := ⟨sb, 3, none⟩) (Nat.le_refl sb) _
  exact (hb.block rb hn).trans h

set_option maxHeartbeats 4000000 in
theorem set_any (rb xb : Nat) (s : ByteArray) (k : Nat) (l : List UInt8) (w : World) (h : XdBlk w rb xb s k) (hl : Left s k l) :
    Calls Tryz.prog 230 #[.pointer (some ⟨rb, 0, none⟩)] w fun e w' => w.grownBy w' (some rb) ∧ ((pSet l = none ∧ e = gaveUp) ∨ ∃ T l' W k', pSet l = some (T, l') ∧ e = .returned (.agg #[.int .u64 (W 0 : Int), .int .u64 (W 1 : Int), .int .u64 (W 2 : Int), .int .u64 (W 3 : Int)]) ∧ hasW W = T ∧ (∀ i, i < 4 → W i < 18446744073709551616) ∧ XdBlk w' rb xb s k' ∧ Left s k' l') := by
  have hlt := h.lt
  have hW0 := hasW_zero
  go_enter Tryz.func230, Tryz.ntmps230
  go_wp2_with (go_at_call 205; refine Hid.out ?_)
  refine Lib.hid ?_
  obtain ⟨hb2, hr2, hs2, ht2⟩ := two_sets h
  generalize (w.alloc (.cells #[.int .u64 0, .int .u64 0, .int .u64 0, .int .u64 0] 260)).alloc (.cells #[.int .u64 0, .int .u64 0, .int .u64 0, .int .u64 0] 260) = w2 at hb2 hr2 hs2 ht2 ⊢
  by_cases hh : l.head? = some 94
  · obtain ⟨l0, hl0⟩ : ∃ r, l = 94 :: r := by
      cases l with
      | nil => cases hh
      | cons c r => exact ⟨r, by simpa using hh⟩
    rw [hl0] at hl
    refine (skip_ok rb xb s k l0 94 w2 hr2 hl).mono ?_
    rintro e w3 ⟨rfl, hr3, hg3⟩
    have hl3 := hl.next
    have hs3 := hs2.kept hg3 (by simp; omega)
    have ht3 := ht2.kept hg3 (by simp; omega)
    have hgw := xgrown_trans (xgrown_of_below hb2) hg3
    have HP : Hid (pSet l = match pItems (l0.length + 1) noneB l0 with | none => none | some (T, l') => some (notB T, l')) := Lib.hid (by rw [hl0]; rfl)
    clear hl0
    clear hr2 hl hs2 ht2 hb2 hg3 hh h
    generalize hk3 : k + 1 = k3 at hr3 hl3
    clear hk3

    have hpi : Hid (pSet l = match pItems (l0.length + 1) noneB l0 with | none => none | some (T, l') => some (notB T, l')) := Lib.hid (by rw [HP.out])
    cases hi1 : pItem noneB l0 with
    | none =>
      have HI := Lib.hid (item_no rb xb s k3 l0 (w.heap.size + 1) noneB w3 hr3 hl3 hi1)
      have HE : Hid (pSet l = none) := Lib.hid (by rw [hpi.out, pItems_step, hi1])
      clear hi1 hpi HP
      go_wp2_with (go_at_call 234; refine HI.out.mono ?_; rintro e w4 ⟨rfl, hg4⟩)
      exact ⟨rfl, xgrown_trans hgw hg4, .inl ⟨HE.out, rfl⟩⟩
    | some q =>
      obtain ⟨T1, l1⟩ := q
      rw [← hW0] at hi1
      have HI := Lib.hid (item_ok rb xb s k3 l0 (w.heap.size + 1) (fun _ => 0) T1 l1 w3 hr3 hl3 hs3 (fun _ _ => by omega) (by omega) hi1)
      have hlen := pItem_len hi1
      rw [hW0] at hi1
      have HE : Hid (pItems (l0.length + 1) noneB l0 = if l1.head? = some 93 then some (T1, l1.drop 1) else pItems l0.length T1 l1) := Lib.hid (by rw [pItems_step, hi1])
      clear hi1 HP
      go_wp2_with (go_at_call 234; refine HI.out.mono ?_; rintro e w4 ⟨rfl, k4, W4, hr4, hl4, hs4, hw4, hh4, hc4⟩; refine Hid.out ?_)
      refine Lib.hid ?_
      have ht4 : SetBlk w4 w.heap.size (fun _ => 0) := ht3.chg hc4 (by omega)
      have hgw4 : w.grownBy w4 (some rb) := gw4 hgw hc4 (by omega)
      clear hr3 hl3 hs3 ht3 hgw hc4 HI
      go_wp2_with fail
      go_loopg [9] l1.length (fun g _ wr => ∃ T' l' W' k' n, g = l'.length ∧ l'.length < n ∧ Hid (pItems (l0.length + 1) noneB l0 = if l'.head? = some 93 then some (T', l'.drop 1) else pItems n T' l') ∧ XdBlk wr rb xb s k' ∧ Left s k' l' ∧ SetBlk wr (w.heap.size + 1) W' ∧ SetBlk wr w.heap.size (fun _ => 0) ∧ (∀ i, i < 4 → W' i < 18446744073709551616) ∧ Hid (hasW W' = T') ∧ w.grownBy wr (some rb))
      case atStart => exact ⟨T1, l1, W4, k4, l0.length, rfl, hlen, HE, hr4, hl4, hs4, ht4, hw4, Lib.hid hh4, hgw4⟩
      case round =>
        clear hr4 hl4 hs4 ht4 hw4 hh4 hgw4 HE hlen
        obtain ⟨T', l', W', k', n, rfl, hln, HE, hr5, hl5, hs5, ht5, hw5, hh5, hg5⟩ := hrel
        by_cases hhd : l'.head? = some 93
        · obtain ⟨r, rfl⟩ : ∃ r, l' = 93 :: r := by
            cases l' with
            | nil => cases hhd
            | cons c r => exact ⟨r, by simpa using hhd⟩
          have HS := Lib.hid (skip_ok rb xb s k' r 93 wr hr5 hl5)
          have HF : Hid (pSet l = some (notB T', r)) := Lib.hid (by rw [hpi.out, HE.out, if_pos hhd]; rfl)
          have hl6 := hl5.next
          clear hhd hpi HE hl5
          have hlt5 := hs5.lt
          go_wp2_with (go_at_call 205; refine HS.out.mono ?_; rintro e w6 ⟨rfl, hr6, hg6⟩; refine Hid.out ?_)
          refine Lib.hid ?_
          have hs6 := hs5.kept hg6 (by simp; omega)
          have ht6 := ht5.kept hg6 (by simp; omega)
          have hg7 := xgrown_trans hg5 hg6
          have c0 := hs6.cell 0 (by omega)
          have c1 := hs6.cell 1 (by omega)
          have c2 := hs6.cell 2 (by omega)
          have c3 := hs6.cell 3 (by omega)
          go_wp2_with (go_at_call 231; refine (others_any W' _ hw5).mono ?_; rintro e w8 ⟨rfl, hb8⟩; refine Hid.out ?_)
          refine Lib.hid ?_
          have ht8 := ht6.below hb8
          have hr8 := hr6.below hb8
          have hg8 := xgrown_trans hg7 (xgrown_of_below hb8)
          clear c0 c1 c2 c3
          have f0 := ht8.frozen 0
          have f1 := ht8.frozen 1
          have f2 := ht8.frozen 2
          have f3 := ht8.frozen 3
          have d0 := ht8.cell 0 (by omega)
          have d1 := ht8.cell 1 (by omega)
          have d2 := ht8.cell 2 (by omega)
          have d3 := ht8.cell 3 (by omega)
          go_wp2
          refine bodyPost_ret (v := .agg #[.int .u64 (notW W' 0 : Int), .int .u64 (notW W' 1 : Int), .int .u64 (notW W' 2 : Int), .int .u64 (notW W' 3 : Int)]) (by simp [results, Tryz.results230, go_sem, d0, d1, d2, d3]) rfl ⟨sets4 hg8 (Nat.le_refl _), .inr ⟨_, r, notW W', k' + 1, HF.out, rfl, ?_, ?_, ?_, hl6⟩⟩
          · funext c
            rw [hasW_not W' hw5, hh5.out]
          · intro i hi
            unfold notW
            omega
          · exact rd4 hr8 (by omega)
        · have hsn : seesB l' 93 = false := Bool.eq_false_iff.2 fun e => hhd (sees_head.1 e)
          have HS := Lib.hid (skip_no rb xb s k' l' 93 wr hr5 hl5 hsn)
          have HE2 : Hid (pItems (l0.length + 1) noneB l0 = pItems n T' l') := Lib.hid (by rw [HE.out, if_neg hhd])
          obtain ⟨n, rfl⟩ : ∃ m, n = m + 1 := ⟨n - 1, by omega⟩
          clear hhd hsn HE
          go_wp2_with (go_at_call 205; refine HS.out.mono ?_; rintro e w6 ⟨rfl, nd, rfl⟩; refine Hid.out ?_)
          refine Lib.hid ?_
          cases hi2 : pItem T' l' with
          | none =>
            have HI := Lib.hid (item_no rb xb s k' l' (w.heap.size + 1) T' (wr.drewN nd) hr5 hl5 hi2)
            have HF : Hid (pSet l = none) := Lib.hid (by rw [hpi.out, HE2.out, pItems_step, hi2])
            clear hi2 hpi HE2
            go_wp2_with (go_at_call 234; refine HI.out.mono ?_; rintro e w7 ⟨rfl, hg7⟩)
            exact ⟨rfl, xgrown_trans hg5 (grown_from hg7), .inl ⟨HF.out, rfl⟩⟩
          | some q =>
            obtain ⟨T2, l2⟩ := q
            have hlen2 := pItem_len hi2
            have HE3 : Hid (pItems (l0.length + 1) noneB l0 = if l2.head? = some 93 then some (T2, l2.drop 1) else pItems n T2 l2) := Lib.hid (by rw [HE2.out, pItems_step, hi2])
            rw [← hh5.out] at hi2
            have HI := Lib.hid (item_ok rb xb s k' l' (w.heap.size + 1) W' T2 l2 (wr.drewN nd) hr5 hl5 hs5 hw5 (by omega) hi2)
            clear hi2 HE2
            go_wp2_with (go_at_call 234; refine HI.out.mono ?_; rintro e w7 ⟨rfl, k7, W7, hr7, hl7, hs7, hw7, hh7, hc7⟩)
            go_roundg l2.length
            case measure => exact hlen2
            case rel =>
              have hc8 : Chg (fun b => b = rb ∨ b = w.heap.size + 1) wr w7 := ⟨hc7.os, hc7.tape, hc7.output, hc7.size, hc7.block⟩
              exact ⟨T2, l2, W7, k7, n, rfl, by omega, HE3, hr7, hl7, hs7, ht5.chg hc8 (by omega), hw7, Lib.hid hh7, gw4 hg5 hc8 (by omega)⟩
  · have hsn : seesB l 94 = false := Bool.eq_false_iff.2 fun e => hh (sees_head.1 e)
    refine (skip_no rb xb s k l 94 w2 hr2 hl hsn).mono ?_
    rintro e w3' ⟨rfl, nd, rfl⟩
    obtain ⟨w3, hw3⟩ : ∃ w3, w3 = w2.drewN nd := ⟨_, rfl⟩
    have hr3 : XdBlk w3 rb xb s k := by rw [hw3]; exact hr2
    have hs3 : SetBlk w3 (w.heap.size + 1) (fun _ => 0) := by rw [hw3]; exact hs2
    have ht3 : SetBlk w3 w.heap.size (fun _ => 0) := by rw [hw3]; exact ht2
    have hgw : w.grownBy w3 (some rb) := by rw [hw3]; exact grown_like (xgrown_of_below hb2) rfl rfl rfl rfl
    rw [← hw3]
    have HP : Hid (pSet l = match pItems (l.length + 1) noneB l with | none => none | some (T, l') => some (T, l')) := Lib.hid (by
      unfold pSet
      rw [if_neg hh]
      cases pItems (l.length + 1) noneB l with
      | none => rfl
      | some q => rfl)
    clear hr2 hs2 ht2 hb2 hw3 hh hsn h
    have hl3 := hl
    clear hl
    obtain ⟨l0, hl0⟩ : ∃ l0, l0 = l := ⟨_, rfl⟩
    obtain ⟨k3, rfl⟩ : ∃ k3, k3 = k := ⟨_, rfl⟩
    rw [← hl0] at hl3
    have HP : Hid (pSet l = match pItems (l0.length + 1) noneB l0 with | none => none | some (T, l') => some (T, l')) := by rw [hl0]; exact HP
    clear hl0

    have hpi : Hid (pSet l = match pItems (l0.length + 1) noneB l0 with | none => none | some (T, l') => some (T, l')) := Lib.hid (by rw [HP.out])
    cases hi1 : pItem noneB l0 with
    | none =>
      have HI := Lib.hid (item_no rb xb s k3 l0 (w.heap.size + 1) noneB w3 hr3 hl3 hi1)
      have HE : Hid (pSet l = none) := Lib.hid (by rw [hpi.out, pItems_step, hi1])
      clear hi1 hpi HP
      go_wp2_with (go_at_call 234; refine HI.out.mono ?_; rintro e w4 ⟨rfl, hg4⟩)
      exact ⟨rfl, xgrown_trans hgw hg4, .inl ⟨HE.out, rfl⟩⟩
    | some q =>
      obtain ⟨T1, l1⟩ := q
      rw [← hW0] at hi1
      have HI := Lib.hid (item_ok rb xb s k3 l0 (w.heap.size + 1) (fun _ => 0) T1 l1 w3 hr3 hl3 hs3 (fun _ _ => by omega) (by omega) hi1)
      have hlen := pItem_len hi1
      rw [hW0] at hi1
      have HE : Hid (pItems (l0.length + 1) noneB l0 = if l1.head? = some 93 then some (T1, l1.drop 1) else pItems l0.length T1 l1) := Lib.hid (by rw [pItems_step, hi1])
      clear hi1 HP
      go_wp2_with (go_at_call 234; refine HI.out.mono ?_; rintro e w4 ⟨rfl, k4, W4, hr4, hl4, hs4, hw4, hh4, hc4⟩; refine Hid.out ?_)
      refine Lib.hid ?_
      have ht4 : SetBlk w4 w.heap.size (fun _ => 0) := ht3.chg hc4 (by omega)
      have hgw4 : w.grownBy w4 (some rb) := gw4 hgw hc4 (by omega)
      clear hr3 hl3 hs3 ht3 hgw hc4 HI
      go_wp2_with fail
      go_loopg [9] l1.length (fun g _ wr => ∃ T' l' W' k' n, g = l'.length ∧ l'.length < n ∧ Hid (pItems (l0.length + 1) noneB l0 = if l'.head? = some 93 then some (T', l'.drop 1) else pItems n T' l') ∧ XdBlk wr rb xb s k' ∧ Left s k' l' ∧ SetBlk wr (w.heap.size + 1) W' ∧ SetBlk wr w.heap.size (fun _ => 0) ∧ (∀ i, i < 4 → W' i < 18446744073709551616) ∧ Hid (hasW W' = T') ∧ w.grownBy wr (some rb))
      case atStart => exact ⟨T1, l1, W4, k4, l0.length, rfl, hlen, HE, hr4, hl4, hs4, ht4, hw4, Lib.hid hh4, hgw4⟩
      case round =>
        clear hr4 hl4 hs4 ht4 hw4 hh4 hgw4 HE hlen
        obtain ⟨T', l', W', k', n, rfl, hln, HE, hr5, hl5, hs5, ht5, hw5, hh5, hg5⟩ := hrel
        by_cases hhd : l'.head? = some 93
        · obtain ⟨r, rfl⟩ : ∃ r, l' = 93 :: r := by
            cases l' with
            | nil => cases hhd
            | cons c r => exact ⟨r, by simpa using hhd⟩
          have HS := Lib.hid (skip_ok rb xb s k' r 93 wr hr5 hl5)
          have HF : Hid (pSet l = some (T', r)) := Lib.hid (by rw [hpi.out, HE.out, if_pos hhd]; rfl)
          have hl6 := hl5.next
          clear hhd hpi HE hl5
          have hlt5 := hs5.lt
          go_wp2_with (go_at_call 205; refine HS.out.mono ?_; rintro e w6 ⟨rfl, hr6, hg6⟩; refine Hid.out ?_)
          refine Lib.hid ?_
          have hs6 := hs5.kept hg6 (by simp; omega)
          have ht6 := ht5.kept hg6 (by simp; omega)
          have hg7 := xgrown_trans hg5 hg6
          have c0 := hs6.cell 0 (by omega)
          have c1 := hs6.cell 1 (by omega)
          have c2 := hs6.cell 2 (by omega)
          have c3 := hs6.cell 3 (by omega)
          have f0 := ht6.frozen 0
          have f1 := ht6.frozen 1
          have f2 := ht6.frozen 2
          have f3 := ht6.frozen 3
          have d0 := ht6.cell 0 (by omega)
          have d1 := ht6.cell 1 (by omega)
          have d2 := ht6.cell 2 (by omega)
          have d3 := ht6.cell 3 (by omega)
          go_wp2
          refine bodyPost_ret (v := .agg #[.int .u64 (W' 0 : Int), .int .u64 (W' 1 : Int), .int .u64 (W' 2 : Int), .int .u64 (W' 3 : Int)]) (by simp [results, Tryz.results230, go_sem, d0, d1, d2, d3]) rfl ⟨sets4 hg7 (Nat.le_refl _), .inr ⟨_, r, W', k' + 1, HF.out, rfl, hh5.out, hw5, ?_, hl6⟩⟩
          exact rd4 hr6 (by omega)
        · have hsn : seesB l' 93 = false := Bool.eq_false_iff.2 fun e => hhd (sees_head.1 e)
          have HS := Lib.hid (skip_no rb xb s k' l' 93 wr hr5 hl5 hsn)
          have HE2 : Hid (pItems (l0.length + 1) noneB l0 = pItems n T' l') := Lib.hid (by rw [HE.out, if_neg hhd])
          obtain ⟨n, rfl⟩ : ∃ m, n = m + 1 := ⟨n - 1, by omega⟩
          clear hhd hsn HE
          go_wp2_with (go_at_call 205; refine HS.out.mono ?_; rintro e w6 ⟨rfl, nd, rfl⟩; refine Hid.out ?_)
          refine Lib.hid ?_
          cases hi2 : pItem T' l' with
          | none =>
            have HI := Lib.hid (item_no rb xb s k' l' (w.heap.size + 1) T' (wr.drewN nd) hr5 hl5 hi2)
            have HF : Hid (pSet l = none) := Lib.hid (by rw [hpi.out, HE2.out, pItems_step, hi2])
            clear hi2 hpi HE2
            go_wp2_with (go_at_call 234; refine HI.out.mono ?_; rintro e w7 ⟨rfl, hg7⟩)
            exact ⟨rfl, xgrown_trans hg5 (grown_from hg7), .inl ⟨HF.out, rfl⟩⟩
          | some q =>
            obtain ⟨T2, l2⟩ := q
            have hlen2 := pItem_len hi2
            have HE3 : Hid (pItems (l0.length + 1) noneB l0 = if l2.head? = some 93 then some (T2, l2.drop 1) else pItems n T2 l2) := Lib.hid (by rw [HE2.out, pItems_step, hi2])
            rw [← hh5.out] at hi2
            have HI := Lib.hid (item_ok rb xb s k' l' (w.heap.size + 1) W' T2 l2 (wr.drewN nd) hr5 hl5 hs5 hw5 (by omega) hi2)
            clear hi2 HE2
            go_wp2_with (go_at_call 234; refine HI.out.mono ?_; rintro e w7 ⟨rfl, k7, W7, hr7, hl7, hs7, hw7, hh7, hc7⟩)
            go_roundg l2.length
            case measure => exact hlen2
            case rel =>
              have hc8 : Chg (fun b => b = rb ∨ b = w.heap.size + 1) wr w7 := ⟨hc7.os, hc7.tape, hc7.output, hc7.size, hc7.block⟩
              exact ⟨T2, l2, W7, k7, n, rfl, by omega, HE3, hr7, hl7, hs7, ht5.chg hc8 (by omega), hw7, Lib.hid hh7, gw4 hg5 hc8 (by omega)⟩

theorem set_no (rb xb : Nat) (s : ByteArray) (k : Nat) (l : List UInt8) (w : World) (h : XdBlk w rb xb s k) (hl : Left s k l) (hp : pSet l = none) :
    Calls Tryz.prog 230 #[.pointer (some ⟨rb, 0, none⟩)] w fun e w' => e = gaveUp ∧ w.grownBy w' (some rb) :=
  (set_any rb xb s k l w h hl).mono fun e w' ⟨hg, ho⟩ => by
    rcases ho with ⟨-, he⟩ | ⟨T, l', W, k', h1, -⟩
    · exact ⟨he, hg⟩
    · rw [hp] at h1; cases h1
theorem set_ok (rb xb : Nat) (s : ByteArray) (k : Nat) (l : List UInt8) (T : BSet) (l' : List UInt8) (w : World) (h : XdBlk w rb xb s k) (hl : Left s k l) (hp : pSet l = some (T, l')) :
    Calls Tryz.prog 230 #[.pointer (some ⟨rb, 0, none⟩)] w fun e w' => ∃ W, e = .returned (.agg #[.int .u64 (W 0 : Int), .int .u64 (W 1 : Int), .int .u64 (W 2 : Int), .int .u64 (W 3 : Int)]) ∧ hasW W = T ∧ (∀ i, i < 4 → W i < 18446744073709551616) ∧ w.grownBy w' (some rb) ∧ ∃ k', XdBlk w' rb xb s k' ∧ Left s k' l' :=
  (set_any rb xb s k l w h hl).mono fun e w' ⟨hg, ho⟩ => by
    rcases ho with ⟨h1, -⟩ | ⟨T', l1, W, k', h1, h2, h3, h4, h5, h6⟩
    · rw [hp] at h1; cases h1
    · rw [hp] at h1
      injection h1 with h1
      injection h1 with e1 e2
      subst e1 e2
      exact ⟨W, h2, h3, h4, hg, k', h5, h6⟩

end Go.Proofs.YtcngifkoopcmeaaGreatDoor
