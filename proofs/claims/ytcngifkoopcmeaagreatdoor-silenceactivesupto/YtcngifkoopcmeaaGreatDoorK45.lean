/-
  Same of the reference where both silences are one. What both Ofs tell, in one word.
-/
import Derived.Test.YtcngifkoopcmeaaGreatDoorK44
import Derived.Laws.StructEq
namespace Go.Proofs.YtcngifkoopcmeaaGreatDoor
open Go Go.RowKit

theorem neMt_runY (x : Mt) : ∀ w : World, (binOp .neq 131 (.agg #[.string x.1, .int .u8 (x.2.1 : Int), .string x.2.2]) (.agg #[.string x.1, .int .u8 (x.2.1 : Int), .string x.2.2])).run Tryz.prog w = .ok (.bool false) w := fun w => by
  have u9 := Tryz.underlying9
  have a9 := Tryz.isAgg9
  have z9 := Tryz.sizeOf9
  have u8 := Tryz.underlying129
  have a8 := Tryz.isAgg129
  have z8 := Tryz.sizeOf129
  have hS : Tryz.prog.underlying 131 = some (.struct (Tryz.prog.fieldsOf 131)) := by kernel_rfl
  have hp : Tryz.prog.stoodInHeld 131 = false := by kernel_rfl
  rw [run_neq_struct, show (10000 : Nat) = 9999 + 1 from rfl, run_equalIn_agg w 9999 131 _ _ hS hp]
  simp only [Program.fieldsOf, Tryz.underlying131]
  go_simp

set_option maxRecDepth 20000 in
set_option maxHeartbeats 4000000 in
theorem uSameMts_yes (a : Option Addr) (c : Nat) (ms : List Mt) (b : Option Addr) (d : Nat) (w : World) (h1 : MtsAt w a ms) (h2 : MtsAt w b ms) (hn : ms.length ≤ 1000) (n : Nat) (hnn : n = ms.length) :
    Calls Tryz.prog 80 #[.slice a n c, .slice b n d] w fun e w' => e = .returned (.bool true) ∧ Below w.heap.size w w' := by
  have H1 := Lib.hid h1
  have H2 := Lib.hid h2
  have HN := Lib.hid hnn
  have hnb : n ≤ 1000 := by omega
  clear h1 h2 hnn hn
  go_enter Tryz.func80, Tryz.ntmps80
  go_wp2
  go_loopw [5] (fun s5 wr => ∃ k : Nat, k ≤ n ∧ s5 = .int .i64 k ∧ Hid (Below w.heap.size w wr)) (fun i _ => n - (intOf i).toNat)
  case atStart => exact ⟨0, Nat.zero_le _, rfl, Lib.hid (Below.refl _ _)⟩
  case round =>
    obtain ⟨k, hk, rfl, HB⟩ := hrel
    by_cases hlt : k < n
    · have hkl : (k : Int) < (n : Int) := by omega
      have hkx : k < ms.length := by have := HN.out; omega
      obtain ⟨b1, o1, rfl, hb1, hcx⟩ := H1.out (by omega)
      obtain ⟨b2, o2, rfl, hb2, hcy⟩ := H2.out (by omega)
      have hx : MCY wr b1 (o1 + k * 3) ms[k] := ⟨(HB.out.cell (p := ⟨b1, o1 + k * 3, none⟩) hb1).trans (hcx k hkx).1, (HB.out.cell (p := ⟨b1, o1 + k * 3 + 1, none⟩) hb1).trans (hcx k hkx).2.1, (HB.out.cell (p := ⟨b1, o1 + k * 3 + 2, none⟩) hb1).trans (hcx k hkx).2.2⟩
      have hy : MCY wr b2 (o2 + k * 3) ms[k] := ⟨(HB.out.cell (p := ⟨b2, o2 + k * 3, none⟩) hb2).trans (hcy k hkx).1, (HB.out.cell (p := ⟨b2, o2 + k * 3 + 1, none⟩) hb2).trans (hcy k hkx).2.1, (HB.out.cell (p := ⟨b2, o2 + k * 3 + 2, none⟩) hb2).trans (hcy k hkx).2.2⟩
      have hne0 := neMt_runY ms[k]
      have HNE := Lib.hid hne0
      clear hcx hcy hne0
      generalize ms[k] = m at *
      obtain ⟨mn, mo, mv⟩ := m
      dsimp only at HNE
      clear hkx
      go_wp2_with fail
      refine wp_region_any (by kernel_rfl) ?_
      change wpAny _ _ _ _ _ _ _ (World.drew _)
      have hS : (fun w' : World => MCY w' b1 (o1 + k * 3) (mn, mo, mv) ∧ MCY w' b2 (o2 + k * 3) (mn, mo, mv)) wr.drew := ⟨hx, hy⟩
      refine wpAny_of_held (S := fun w' => MCY w' b1 (o1 + k * 3) (mn, mo, mv) ∧ MCY w' b2 (o2 + k * 3) (mn, mo, mv)) _ _ _ _ ?_
      clear hx hy
      refine wpAnyH_takeE (i := 0) (some 17) (v := ?_) rfl rfl (by as_aux_lemma => kernel_rfl) (by as_aux_lemma => kernel_rfl) (by as_aux_lemma => kernel_rfl) (fun _ _ _ h => h) (Or.inl ⟨by kernel_rfl, ?_⟩) hS ?_
      rotate_left
      · intro w hSw; have c0 := hSw.1.1; have c1 := hSw.1.2.1; have c2 := hSw.1.2.2; dsimp only at c0 c1 c2; go_simp
        first | done | with_reducible rfl
      refine wpAnyH_takeE (i := 1) (some 18) (v := ?_) rfl rfl (by as_aux_lemma => kernel_rfl) (by as_aux_lemma => kernel_rfl) (by as_aux_lemma => kernel_rfl) (fun _ _ _ h => h) (Or.inl ⟨by kernel_rfl, ?_⟩) hS ?_
      rotate_left
      · intro w hSw; have c0 := hSw.1.1; have c1 := hSw.1.2.1; have c2 := hSw.1.2.2; dsimp only at c0 c1 c2; go_simp
        first | done | with_reducible rfl
      refine wpAnyH_takeE (i := 2) (some 19) (v := ?_) rfl rfl (by as_aux_lemma => kernel_rfl) (by as_aux_lemma => kernel_rfl) (by as_aux_lemma => kernel_rfl) (fun _ _ _ h => h) (Or.inl ⟨by kernel_rfl, ?_⟩) hS ?_
      rotate_left
      · intro w hSw; have c0 := hSw.1.1; have c1 := hSw.1.2.1; have c2 := hSw.1.2.2; dsimp only at c0 c1 c2; go_simp
        first | done | with_reducible rfl
      refine wpAnyH_takeE (i := 3) (some 20) (v := ?_) rfl rfl (by as_aux_lemma => kernel_rfl) (by as_aux_lemma => kernel_rfl) (by as_aux_lemma => kernel_rfl) (fun _ _ _ h => h) (Or.inl ⟨by kernel_rfl, ?_⟩) hS ?_
      rotate_left
      · intro w hSw; have c0 := hSw.1.1; have c1 := hSw.1.2.1; have c2 := hSw.1.2.2; dsimp only at c0 c1 c2; go_simp
        first | done | with_reducible rfl
      refine wpAnyH_takeE (i := 4) (some 21) (v := ?_) rfl rfl (by as_aux_lemma => kernel_rfl) (by as_aux_lemma => kernel_rfl) (by as_aux_lemma => kernel_rfl) (fun _ _ _ h => h) (Or.inl ⟨by kernel_rfl, ?_⟩) hS ?_
      rotate_left
      · intro w hSw; have c0 := hSw.2.1; have c1 := hSw.2.2.1; have c2 := hSw.2.2.2; dsimp only at c0 c1 c2; go_simp
        first | done | with_reducible rfl
      refine wpAnyH_takeE (i := 5) (some 22) (v := ?_) rfl rfl (by as_aux_lemma => kernel_rfl) (by as_aux_lemma => kernel_rfl) (by as_aux_lemma => kernel_rfl) (fun _ _ _ h => h) (Or.inl ⟨by kernel_rfl, ?_⟩) hS ?_
      rotate_left
      · intro w hSw; have c0 := hSw.2.1; have c1 := hSw.2.2.1; have c2 := hSw.2.2.2; dsimp only at c0 c1 c2; go_simp
        first | done | with_reducible rfl
      refine wpAnyH_takeE (i := 6) (some 23) (v := ?_) rfl rfl (by as_aux_lemma => kernel_rfl) (by as_aux_lemma => kernel_rfl) (by as_aux_lemma => kernel_rfl) (fun _ _ _ h => h) (Or.inl ⟨by kernel_rfl, ?_⟩) hS ?_
      rotate_left
      · intro w hSw; have c0 := hSw.2.1; have c1 := hSw.2.2.1; have c2 := hSw.2.2.2; dsimp only at c0 c1 c2; go_simp
        first | done | with_reducible rfl
      refine wpAnyH_takeE (i := 7) (some 24) (v := ?_) rfl rfl (by as_aux_lemma => kernel_rfl) (by as_aux_lemma => kernel_rfl) (by as_aux_lemma => kernel_rfl) (fun _ _ _ h => h) (Or.inl ⟨by kernel_rfl, ?_⟩) hS ?_
      rotate_left
      · intro w hSw; have c0 := hSw.2.1; have c1 := hSw.2.2.1; have c2 := hSw.2.2.2; dsimp only at c0 c1 c2; go_simp
        first | done | with_reducible rfl
      refine wpAnyH_takeE (i := 8) (some 25) (v := ?_) rfl rfl (by as_aux_lemma => kernel_rfl) (by as_aux_lemma => kernel_rfl) (by as_aux_lemma => kernel_rfl) (fun _ _ _ h => h) (Or.inl ⟨by kernel_rfl, ?_⟩) hS ?_
      rotate_left
      · intro w hSw; have hne := HNE.out; go_simp
        first | done | with_reducible rfl
      clear hS
      refine wpAnyH_done (by kernel_rfl) ?_ _
      go_simp
      go_wp2
      go_roundw
      case rel => exact ⟨k + 1, by omega, by go_num, Lib.hid HB.out.drew⟩
      case measure => simp [intOf]; omega
    · have hkl : ¬ (k : Int) < (n : Int) := by omega
      go_wp2
      go_ret
      exact ⟨rfl, HB.out⟩

set_option maxRecDepth 100000 in
set_option maxHeartbeats 4000000 in
theorem ySame_yes (s : Sil) (a : Option Addr) (c : Nat) (b : Option Addr) (d : Nat) (w : World) (h1 : MtsAt w a s.ms) (h2 : MtsAt w b s.ms) (hn : s.ms.length ≤ 1000) (n : Nat) (hnn : n = s.ms.length) :
    Calls Tryz.prog 29 #[.agg #[.string s.id, .slice a n c, .int .i64 s.st, .int .i64 s.en], .agg #[.string s.id, .slice b n d, .int .i64 s.st, .int .i64 s.en]] w fun e w' => e = .returned (.bool true) ∧ Below w.heap.size w w' := by
  have d1 := (Below.refl w.heap.size w).alloc (Nat.le_refl _) (.cells #[.string s.id, .slice a n c, .int .i64 s.st, .int .i64 s.en] 55)
  have d2 := (Below.refl (w.alloc (.cells #[.string s.id, .slice a n c, .int .i64 s.st, .int .i64 s.en] 55)).heap.size (w.alloc (.cells #[.string s.id, .slice a n c, .int .i64 s.st, .int .i64 s.en] 55))).alloc (Nat.le_refl _) (.cells #[.string s.id, .slice b n d, .int .i64 s.st, .int .i64 s.en] 55)
  have D2 := d1.trans (d2.mono d1.size)
  have b1 := (SBlk.new w s.id a n c s.st s.en).on d2
  have b2 := SBlk.new (w.alloc (.cells #[.string s.id, .slice a n c, .int .i64 s.st, .int .i64 s.en] 55)) s.id b n d s.st s.en
  rw [World.size_alloc] at b2
  have HE := Lib.hid (uSameMts_yes a c s.ms b d _ (h1.below D2 (Nat.le_refl _)) (h2.below D2 (Nat.le_refl _)) hn n hnn)
  have k0 := b1.c0; have k1 := b1.c1; have k2 := b1.c2; have k3 := b1.c3
  have j0 := b2.c0; have j1 := b2.c1; have j2 := b2.c2; have j3 := b2.c3
  have HD := Lib.hid D2
  clear d1 d2 D2 b1 b2 h1 h2 hn hnn
  obtain ⟨id, ms, st, en⟩ := s
  dsimp only at *
  go_enter Tryz.func29, Tryz.ntmps29
  go_wp2_with (go_at_call 80; refine HE.out.mono ?_; rintro e w3 ⟨rfl, q3⟩; replace q3 := Lib.hid q3; refine Hid.out ?_)
  refine Lib.hid ?_
  have HF := Lib.hid (HD.out.trans (q3.out.mono HD.out.size))
  clear q3 HD HE k0 k1 k2 k3 j0 j1 j2 j3
  go_wp2
  go_ret
  exact ⟨rfl, HF.out⟩

/-- The silence that an entry tells, or the empty one. -/
def silR (x : Ent) : Sil := (ofS x).getD zeroS
theorem silR_short (x : Ent) : (silR x).ms.length ≤ 1000 := by
  unfold silR
  cases h : ofS x with
  | none => simp [zeroS]
  | some s =>
    have := (silE_zero (entryE_zero (ofS_some.1 h).1).1).2.1
    show s.ms.length ≤ 1000
    omega
theorem sOf_R (x : Ent) (hvs : x.v.size ≤ 1048576) (B : Nat) (w : World) (hB : B ≤ w.heap.size) (hv : VarsOk B w) (htab : TabW w) :
    Calls Tryz.prog 27 #[.agg #[.string x.k, .int .i64 x.t, .int .u16 x.o, .string x.v, .int .i64 x.u]] w fun e w' => ∃ a c, e = .returned (.tuple #[.agg #[.string (silR x).id, .slice a (silR x).ms.length c, .int .i64 (silR x).st, .int .i64 (silR x).en], .bool (ofS x).isSome]) ∧ MtsAt w' a (silR x).ms ∧ Below w.heap.size w w' := by
  unfold silR
  cases h : ofS x with
  | none =>
    refine (sOf_no x hvs B w hB hv htab (ofS_none h)).mono ?_
    rintro e w' ⟨rfl, hb⟩
    exact ⟨none, 0, rfl, fun hn => absurd hn (by simp [zeroS]), hb⟩
  | some s =>
    refine (sOf_yes x hvs B w hB hv htab s (ofS_some.1 h)).mono ?_
    rintro e w' ⟨a, c, rfl, hm, -, hb⟩
    exact ⟨a, c, rfl, hm, hb⟩
theorem yOf_R (x : Ent) (hvs : x.v.size ≤ 1048576) (hks : x.k.size ≤ 1048576) (w : World) :
    Calls Tryz.prog 28 #[.agg #[.string x.k, .int .i64 x.t, .int .u16 x.o, .string x.v, .int .i64 x.u]] w fun e w' => ∃ a c, e = .returned (.tuple #[.agg #[.string (silR x).id, .slice a (silR x).ms.length c, .int .i64 (silR x).st, .int .i64 (silR x).en], .bool (ofS x).isSome]) ∧ MtsAt w' a (silR x).ms ∧ Below w.heap.size w w' := by
  refine (yOf_any x hvs hks w).mono ?_
  rintro e w' ⟨h | h, hb⟩
  · obtain ⟨s, a, c, hs, rfl, hm, -⟩ := h
    have ho := ofS_some.2 hs
    unfold silR
    rw [ho]
    exact ⟨a, c, rfl, hm, hb⟩
  · obtain ⟨hno, rfl⟩ := h
    have ho : ofS x = none := by
      cases h : ofS x with
      | none => rfl
      | some s => exact absurd (ofS_some.1 h) (hno s)
    unfold silR
    rw [ho]
    exact ⟨none, 0, rfl, fun hn => absurd hn (by simp [zeroS]), hb⟩

end Go.Proofs.YtcngifkoopcmeaaGreatDoor
