/-
  Same of the reference where both silences are one. What both Ofs tell, in one word. The walk of SilenceOfs: an entry is the silence that the document says, or none. How large an entry's texts are, by the second form's bound.
-/
import Derived.Test.YtcngifkoopcmeaaGreatDoorK44
import Derived.Laws.StructEq
import Derived.Test.YtcngifkoopcmeaaGreatDoorK26
namespace Go.Proofs.YtcngifkoopcmeaaGreatDoor
open Go Go.RowKit

theorem neMt_runY (x : Mt) : ∀ w : World, (binOp .neq 131 (.agg #[.string x.1, .int .u8 (x.2.1 : Int), .string x.2.2]) (.agg #[.string x.1, .int .u8 (x.2.1 : Int), .string x.2.2])).run Tryz.prog w = .ok (.bool false) w := fun w => by
  have u9 := Tryz.underlying9
  have a9 := Tryz.isAgg9
  have z9 := Tryz.sizeOf9
  have u8 := Tryz.underlying129
  have a8 := Tryz.isAgg129
  have z8 := Tryz.sizeOf129
  have hS : Tryz.prog.underlying 131 = some (.struct (Tryz.prog.fieldsOf 131)) := by kernel_rfl
  have hp : Tryz.prog.stoodInHeld 131 = false := by kernel_rfl
  rw [run_neq_struct, show (10000 : Nat) = 9999 + 1 from rfl, run_equalIn_agg w 9999 131 _ _ hS hp]
  simp only [Program.fieldsOf, Tryz.underlying131]
  go_simp

set_option maxRecDepth 20000 in
set_option maxHeartbeats 4000000 in
theorem uSameMts_yes (a : Option Addr) (c : Nat) (ms : List Mt) (b : Option Addr) (d : Nat) (w : World) (h1 : MtsAt w a ms) (h2 : MtsAt w b ms) (hn : ms.length ≤ 1000) (n : Nat) (hnn : n = ms.length) :
    Calls Tryz.prog 80 #[.slice a n c, .slice b n d] w fun e w' => e = .returned (.bool true) ∧ Below w.heap.size w w' := by
  have H1 := Lib.hid h1
  have H2 := Lib.hid h2
  have HN := Lib.hid hnn
  have hnb : n ≤ 1000 := by omega
  clear h1 h2 hnn hn
  go_enter Tryz.func80, Tryz.ntmps80
  go_wp2
  go_loopw [5] (fun s5 wr => ∃ k : Nat, k ≤ n ∧ s5 = .int .i64 k ∧ Hid (Below w.heap.size w wr)) (fun i _ => n - (intOf i).toNat)
  case atStart => exact ⟨0, Nat.zero_le _, rfl, Lib.hid (Below.refl _ _)⟩
  case round =>
    obtain ⟨k, hk, rfl, HB⟩ := hrel
    by_cases hlt : k < n
    · have hkl : (k : Int) < (n : Int) := by omega
      have hkx : k < ms.length := by have := HN.out; omega
      obtain ⟨b1, o1, rfl, hb1, hcx⟩ := H1.out (by omega)
      obtain ⟨b2, o2, rfl, hb2, hcy⟩ := H2.out (by omega)
      have hx : MCY wr b1 (o1 + k * 3) ms[k] := ⟨(HB.out.cell (p := ⟨b1, o1 + k * 3, none⟩) hb1).trans (hcx k hkx).1, (HB.out.cell (p := ⟨b1, o1 + k * 3 + 1, none⟩) hb1).trans (hcx k hkx).2.1, (HB.out.cell (p := ⟨b1, o1 + k * 3 + 2, none⟩) hb1).trans (hcx k hkx).2.2⟩
      have hy : MCY wr b2 (o2 + k * 3) ms[k] := ⟨(HB.out.cell (p := ⟨b2, o2 + k * 3, none⟩) hb2).trans (hcy k hkx).1, (HB.out.cell (p := ⟨b2, o2 + k * 3 + 1, none⟩) hb2).trans (hcy k hkx).2.1, (HB.out.cell (p := ⟨b2, o2 + k * 3 + 2, none⟩) hb2).trans (hcy k hkx).2.2⟩
      have hne0 := neMt_runY ms[k]
      have HNE := Lib.hid hne0
      clear hcx hcy hne0
      generalize ms[k] = m at *
      obtain ⟨mn, mo, mv⟩ := m
      dsimp only at HNE
      clear hkx
      go_wp2_with fail
      refine wp_region_any (by kernel_rfl) ?_
      change wpAny _ _ _ _ _ _ _ (World.drew _)
      have hS : (fun w' : World => MCY w' b1 (o1 + k * 3) (mn, mo, mv) ∧ MCY w' b2 (o2 + k * 3) (mn, mo, mv)) wr.drew := ⟨hx, hy⟩
      refine wpAny_of_held (S := fun w' => MCY w' b1 (o1 + k * 3) (mn, mo, mv) ∧ MCY w' b2 (o2 + k * 3) (mn, mo, mv)) _ _ _ _ ?_
      clear hx hy
      refine wpAnyH_takeE (i := 0) (some 17) (v := ?_) rfl rfl (by as_aux_lemma => kernel_rfl) (by as_aux_lemma => kernel_rfl) (by as_aux_lemma => kernel_rfl) (fun _ _ _ h => h) (Or.inl ⟨by kernel_rfl, ?_⟩) hS ?_
      rotate_left
      · intro w hSw; have c0 := hSw.1.1; have c1 := hSw.1.2.1; have c2 := hSw.1.2.2; dsimp only at c0 c1 c2; go_simp
        first | done | with_reducible rfl
      refine wpAnyH_takeE (i := 1) (some 18) (v := ?_) rfl rfl (by as_aux_lemma => kernel_rfl) (by as_aux_lemma => kernel_rfl) (by as_aux_lemma => kernel_rfl) (fun _ _ _ h => h) (Or.inl ⟨by kernel_rfl, ?_⟩) hS ?_
      rotate_left
      · intro w hSw; have c0 := hSw.1.1; have c1 := hSw.1.2.1; have c2 := hSw.1.2.2; dsimp only at c0 c1 c2; go_simp
        first | done | with_reducible rfl
      refine wpAnyH_takeE (i := 2) (some 19) (v := ?_) rfl rfl (by as_aux_lemma => kernel_rfl) (by as_aux_lemma => kernel_rfl) (by as_aux_lemma => kernel_rfl) (fun _ _ _ h => h) (Or.inl ⟨by kernel_rfl, ?_⟩) hS ?_
      rotate_left
      · intro w hSw; have c0 := hSw.1.1; have c1 := hSw.1.2.1; have c2 := hSw.1.2.2; dsimp only at c0 c1 c2; go_simp
        first | done | with_reducible rfl
      refine wpAnyH_takeE (i := 3) (some 20) (v := ?_) rfl rfl (by as_aux_lemma => kernel_rfl) (by as_aux_lemma => kernel_rfl) (by as_aux_lemma => kernel_rfl) (fun _ _ _ h => h) (Or.inl ⟨by kernel_rfl, ?_⟩) hS ?_
      rotate_left
      · intro w hSw; have c0 := hSw.1.1; have c1 := hSw.1.2.1; have c2 := hSw.1.2.2; dsimp only at c0 c1 c2; go_simp
        first | done | with_reducible rfl
      refine wpAnyH_takeE (i := 4) (some 21) (v := ?_) rfl rfl (by as_aux_lemma => kernel_rfl) (by as_aux_lemma => kernel_rfl) (by as_aux_lemma => kernel_rfl) (fun _ _ _ h => h) (Or.inl ⟨by kernel_rfl, ?_⟩) hS ?_
      rotate_left
      · intro w hSw; have c0 := hSw.2.1; have c1 := hSw.2.2.1; have c2 := hSw.2.2.2; dsimp only at c0 c1 c2; go_simp
        first | done | with_reducible rfl
      refine wpAnyH_takeE (i := 5) (some 22) (v := ?_) rfl rfl (by as_aux_lemma => kernel_rfl) (by as_aux_lemma => kernel_rfl) (by as_aux_lemma => kernel_rfl) (fun _ _ _ h => h) (Or.inl ⟨by kernel_rfl, ?_⟩) hS ?_
      rotate_left
      · intro w hSw; have c0 := hSw.2.1; have c1 := hSw.2.2.1; have c2 := hSw.2.2.2; dsimp only at c0 c1 c2; go_simp
        first | done | with_reducible rfl
      refine wpAnyH_takeE (i := 6) (some 23) (v := ?_) rfl rfl (by as_aux_lemma => kernel_rfl) (by as_aux_lemma => kernel_rfl) (by as_aux_lemma => kernel_rfl) (fun _ _ _ h => h) (Or.inl ⟨by kernel_rfl, ?_⟩) hS ?_
      rotate_left
      · intro w hSw; have c0 := hSw.2.1; have c1 := hSw.2.2.1; have c2 := hSw.2.2.2; dsimp only at c0 c1 c2; go_simp
        first | done | with_reducible rfl
      refine wpAnyH_takeE (i := 7) (some 24) (v := ?_) rfl rfl (by as_aux_lemma => kernel_rfl) (by as_aux_lemma => kernel_rfl) (by as_aux_lemma => kernel_rfl) (fun _ _ _ h => h) (Or.inl ⟨by kernel_rfl, ?_⟩) hS ?_
      rotate_left
      · intro w hSw; have c0 := hSw.2.1; have c1 := hSw.2.2.1; have c2 := hSw.2.2.2; dsimp only at c0 c1 c2; go_simp
        first | done | with_reducible rfl
      refine wpAnyH_takeE (i := 8) (some 25) (v := ?_) rfl rfl (by as_aux_lemma => kernel_rfl) (by as_aux_lemma => kernel_rfl) (by as_aux_lemma => kernel_rfl) (fun _ _ _ h => h) (Or.inl ⟨by kernel_rfl, ?_⟩) hS ?_
      rotate_left
      · intro w hSw; have hne := HNE.out; go_simp
        first | done | with_reducible rfl
      clear hS
      refine wpAnyH_done (by kernel_rfl) ?_ _
      go_simp
      go_wp2
      go_roundw
      case rel => exact ⟨k + 1, by omega, by go_num, Lib.hid HB.out.drew⟩
      case measure => simp [intOf]; omega
    · have hkl : ¬ (k : Int) < (n : Int) := by omega
      go_wp2
      go_ret
      exact ⟨rfl, HB.out⟩

set_option maxRecDepth 100000 in
set_option maxHeartbeats 4000000 in
theorem ySame_yes (s : Sil) (a : Option Addr) (c : Nat) (b : Option Addr) (d : Nat) (w : World) (h1 : MtsAt w a s.ms) (h2 : MtsAt w b s.ms) (hn : s.ms.length ≤ 1000) (n : Nat) (hnn : n = s.ms.length) :
    Calls Tryz.prog 29 #[.agg #[.string s.id, .slice a n c, .int .i64 s.st, .int .i64 s.en], .agg #[.string s.id, .slice b n d, .int .i64 s.st, .int .i64 s.en]] w fun e w' => e = .returned (.bool true) ∧ Below w.heap.size w w' := by
  have d1 := (Below.refl w.heap.size w).alloc (Nat.le_refl _) (.cells #[.string s.id, .slice a n c, .int .i64 s.st, .int .i64 s.en] 55)
  have d2 := (Below.refl (w.alloc (.cells #[.string s.id, .slice a n c, .int .i64 s.st, .int .i64 s.en] 55)).heap.size (w.alloc (.cells #[.string s.id, .slice a n c, .int .i64 s.st, .int .i64 s.en] 55))).alloc (Nat.le_refl _) (.cells #[.string s.id, .slice b n d, .int .i64 s.st, .int .i64 s.en] 55)
  have D2 := d1.trans (d2.mono d1.size)
  have b1 := (SBlk.new w s.id a n c s.st s.en).on d2
  have b2 := SBlk.new (w.alloc (.cells #[.string s.id, .slice a n c, .int .i64 s.st, .int .i64 s.en] 55)) s.id b n d s.st s.en
  rw [World.size_alloc] at b2
  have HE := Lib.hid (uSameMts_yes a c s.ms b d _ (h1.below D2 (Nat.le_refl _)) (h2.below D2 (Nat.le_refl _)) hn n hnn)
  have k0 := b1.c0; have k1 := b1.c1; have k2 := b1.c2; have k3 := b1.c3
  have j0 := b2.c0; have j1 := b2.c1; have j2 := b2.c2; have j3 := b2.c3
  have HD := Lib.hid D2
  clear d1 d2 D2 b1 b2 h1 h2 hn hnn
  obtain ⟨id, ms, st, en⟩ := s
  dsimp only at *
  go_enter Tryz.func29, Tryz.ntmps29
  go_wp2_with (go_at_call 80; refine HE.out.mono ?_; rintro e w3 ⟨rfl, q3⟩; replace q3 := Lib.hid q3; refine Hid.out ?_)
  refine Lib.hid ?_
  have HF := Lib.hid (HD.out.trans (q3.out.mono HD.out.size))
  clear q3 HD HE k0 k1 k2 k3 j0 j1 j2 j3
  go_wp2
  go_ret
  exact ⟨rfl, HF.out⟩

/-- The silence that an entry tells, or the empty one. -/
def silR (x : Ent) : Sil := (ofS x).getD zeroS
theorem silR_short (x : Ent) : (silR x).ms.length ≤ 1000 := by
  unfold silR
  cases h : ofS x with
  | none => simp [zeroS]
  | some s =>
    have := (silE_zero (entryE_zero (ofS_some.1 h).1).1).2.1
    show s.ms.length ≤ 1000
    omega
theorem sOf_R (x : Ent) (hvs : x.v.size ≤ 1048576) (B : Nat) (w : World) (hB : B ≤ w.heap.size) (hv : VarsOk B w) (htab : TabW w) :
    Calls Tryz.prog 27 #[.agg #[.string x.k, .int .i64 x.t, .int .u16 x.o, .string x.v, .int .i64 x.u]] w fun e w' => ∃ a c, e = .returned (.tuple #[.agg #[.string (silR x).id, .slice a (silR x).ms.length c, .int .i64 (silR x).st, .int .i64 (silR x).en], .bool (ofS x).isSome]) ∧ MtsAt w' a (silR x).ms ∧ Below w.heap.size w w' := by
  unfold silR
  cases h : ofS x with
  | none =>
    refine (sOf_no x hvs B w hB hv htab (ofS_none h)).mono ?_
    rintro e w' ⟨rfl, hb⟩
    exact ⟨none, 0, rfl, fun hn => absurd hn (by simp [zeroS]), hb⟩
  | some s =>
    refine (sOf_yes x hvs B w hB hv htab s (ofS_some.1 h)).mono ?_
    rintro e w' ⟨a, c, rfl, hm, -, hb⟩
    exact ⟨a, c, rfl, hm, hb⟩
theorem yOf_R (x : Ent) (hvs : x.v.size ≤ 1048576) (hks : x.k.size ≤ 1048576) (w : World) :
    Calls Tryz.prog 28 #[.agg #[.string x.k, .int .i64 x.t, .int .u16 x.o, .string x.v, .int .i64 x.u]] w fun e w' => ∃ a c, e = .returned (.tuple #[.agg #[.string (silR x).id, .slice a (silR x).ms.length c, .int .i64 (silR x).st, .int .i64 (silR x).en], .bool (ofS x).isSome]) ∧ MtsAt w' a (silR x).ms ∧ Below w.heap.size w w' := by
  refine (yOf_any x hvs hks w).mono ?_
  rintro e w' ⟨h | h, hb⟩
  · obtain ⟨s, a, c, hs, rfl, hm⟩ := h
    have ho := ofS_some.2 hs
    unfold silR
    rw [ho]
    exact ⟨a, c, rfl, hm, hb⟩
  · obtain ⟨hno, rfl⟩ := h
    have ho : ofS x = none := by
      cases h : ofS x with
      | none => rfl
      | some s => exact absurd (ofS_some.1 h) (hno s)
    unfold silR
    rw [ho]
    exact ⟨none, 0, rfl, fun hn => absurd hn (by simp [zeroS]), hb⟩

end Go.Proofs.YtcngifkoopcmeaaGreatDoor
namespace Go.Proofs.YtcngifkoopcmeaaGreatDoor
open Go Go.RowKit

set_option maxRecDepth 100000 in
set_option maxHeartbeats 4000000 in
theorem ofs_walkS (x : Ent) (hvs : x.v.size ≤ 1048576) (hks : x.k.size ≤ 1048576) (w : World) (htab : TabW w) (hv : VarsOk w.heap.size w) :
    Calls Tryz.prog 7 #[.agg #[.string x.k, .int .i64 x.t, .int .u16 x.o, .string x.v, .int .i64 x.u]] w fun e w' => e = .returned (.bool true) ∧ Below w.heap.size w w' := by
  obtain ⟨n, hn⟩ : ∃ n, n = (silR x).ms.length := ⟨_, rfl⟩
  obtain ⟨p, hp⟩ : ∃ p, p = (ofS x).isSome := ⟨_, rfl⟩
  have d1 := (Below.refl w.heap.size w).alloc (Nat.le_refl _) (.cells #[.string x.k, .int .i64 x.t, .int .u16 x.o, .string x.v, .int .i64 x.u] 60)
  have b1 := EBlk.new w x
  have HA : Hid (∀ W, Below w.heap.size w W → Calls Tryz.prog 22 #[] W fun e w' => e = .returned (.bool true) ∧ Below W.heap.size W w') := Lib.hid (fun W hW => slawake_any w.heap.size W hW.size (hv.on hW) (htab.on hW htab.lt))
  have HO1 : Hid (∀ u, Below w.heap.size w u → Calls Tryz.prog 27 #[.agg #[.string x.k, .int .i64 x.t, .int .u16 x.o, .string x.v, .int .i64 x.u]] u fun e u' => ∃ a c, e = .returned (.tuple #[.agg #[.string (silR x).id, .slice a n c, .int .i64 (silR x).st, .int .i64 (silR x).en], .bool p]) ∧ MtsAt u' a (silR x).ms ∧ Below u.heap.size u u') := Lib.hid (fun u hu => hn ▸ hp ▸ sOf_R x hvs w.heap.size u hu.size (hv.on hu) (htab.on hu htab.lt))
  have HO2 : Hid (∀ u, Calls Tryz.prog 28 #[.agg #[.string x.k, .int .i64 x.t, .int .u16 x.o, .string x.v, .int .i64 x.u]] u fun e u' => ∃ a c, e = .returned (.tuple #[.agg #[.string (silR x).id, .slice a n c, .int .i64 (silR x).st, .int .i64 (silR x).en], .bool p]) ∧ MtsAt u' a (silR x).ms ∧ Below u.heap.size u u') := Lib.hid (fun u => hn ▸ hp ▸ yOf_R x hvs hks u)
  have HSm : Hid (∀ u a c b d, MtsAt u a (silR x).ms → MtsAt u b (silR x).ms → Calls Tryz.prog 29 #[.agg #[.string (silR x).id, .slice a n c, .int .i64 (silR x).st, .int .i64 (silR x).en], .agg #[.string (silR x).id, .slice b n d, .int .i64 (silR x).st, .int .i64 (silR x).en]] u fun e u' => e = .returned (.bool true) ∧ Below u.heap.size u u') := Lib.hid (fun u a c b d h1 h2 => ySame_yes (silR x) a c b d u h1 h2 (silR_short x) n hn)
  have x0 := b1.c0; have x1 := b1.c1; have x2 := b1.c2; have x3 := b1.c3; have x4 := b1.c4
  have HZ := Lib.hid (And.intro b1 d1)
  clear hn hp hvs hks htab hv b1 d1
  generalize silR x = s at *
  obtain ⟨kx, tx, ox, vx, ux⟩ := x
  obtain ⟨id, ms, st, en⟩ := s
  dsimp only at *
  go_enter Tryz.func7, Tryz.ntmps7
  go_wp2_with (go_at_call 27; refine (HO1.out _ HZ.out.2).mono ?_; rintro e u1 ⟨a1, c1, rfl, hm1, q1⟩; replace hm1 := Lib.hid hm1; refine Hid.out ?_)
  refine Lib.hid ?_
  obtain ⟨b1, d1⟩ := HZ.out
  have qa := (Below.refl u1.heap.size u1).alloc (Nat.le_refl _) (.cells #[.string id, .slice a1 n c1, .int .i64 st, .int .i64 en] 55)
  have b2 := (b1.on q1).on qa
  have s2 := SBlk.new u1 id a1 n c1 st en
  have d2 := d1.trans (q1.mono d1.size)
  have d3 := d2.trans (qa.mono d2.size)
  have m2 := hm1.out.below qa (Nat.le_refl _)
  clear x0 x1 x2 x3 x4
  have x0 := b2.c0; have x1 := b2.c1; have x2 := b2.c2; have x3 := b2.c3; have x4 := b2.c4
  dsimp only at x0 x1 x2 x3 x4
  have HZ2 := Lib.hid (And.intro s2 (And.intro m2 d3))
  clear HZ b1 d1 q1 qa b2 s2 d2 d3 m2 hm1 HO1
  go_wp2_with (go_at_call 28; refine (HO2.out _).mono ?_; rintro e u2 ⟨a2, c2, rfl, hm2, q2⟩; replace hm2 := Lib.hid hm2; refine Hid.out ?_)
  refine Lib.hid ?_
  obtain ⟨s2, m2, d3⟩ := HZ2.out
  have qb := (Below.refl u2.heap.size u2).alloc (Nat.le_refl _) (.cells #[.string id, .slice a2 n c2, .int .i64 st, .int .i64 en] 55)
  have s3 := (s2.on q2).on qb
  have s4 := SBlk.new u2 id a2 n c2 st en
  have m3 := (m2.below q2 (Nat.le_refl _)).below qb (Nat.le_refl _)
  have m4 := hm2.out.below qb (Nat.le_refl _)
  have d4 := d3.trans (q2.mono d3.size)
  have d5 := d4.trans (qb.mono d4.size)
  clear x0 x1 x2 x3 x4
  have y0 := s3.c0; have y1 := s3.c1; have y2 := s3.c2; have y3 := s3.c3
  have z0 := s4.c0; have z1 := s4.c1; have z2 := s4.c2; have z3 := s4.c3
  have HC := Lib.hid (HSm.out _ a1 c1 a2 c2 m3 m4)
  have HD5 := Lib.hid d5
  clear HZ2 s2 m2 d3 q2 qb s3 s4 m3 m4 d4 d5 hm2 HO2 HSm
  go_wp2_with (go_at_call 29; refine HC.out.mono ?_; rintro e u3 ⟨rfl, q3⟩; refine Hid.out ?_)
  refine Lib.hid ?_
  have d6 := HD5.out.trans (q3.mono HD5.out.size)
  have HC9 := Lib.hid (HA.out u3 d6)
  have HD6 := Lib.hid d6
  clear d6 q3 HC HD5 y0 y1 y2 y3 z0 z1 z2 z3
  cases p <;> (
    go_wp2_with (go_at_call 22; refine HC9.out.mono ?_; rintro e u4 ⟨rfl, q4⟩; replace q4 := Lib.hid q4; refine Hid.out ?_)
    refine Lib.hid ?_
    have HF := Lib.hid (HD6.out.trans (q4.out.mono HD6.out.size))
    clear q4 HC9 HD6
    go_wp2
    go_ret
    exact ⟨rfl, HF.out⟩)

end Go.Proofs.YtcngifkoopcmeaaGreatDoor
namespace Go.Proofs.YtcngifkoopcmeaaGreatDoor
open Go.ChangeShapes Go.WideShapes Go.ChangeAt Go.RowKit Go.Deep

theorem small_ent6 {H : Type} {ds : List (DataW H)} (h : Rows.uptoBulkAll ds ≤ 1048576) {x : Ent} (hm : datE x ∈ ds) : x.v.size ≤ 1048576 ∧ x.k.size ≤ 1048576 := by
  have h1 := bulk_mem hm
  simp only [datE, Rows.uptoBulk, Rows.uptoBulkAll] at h1
  have h2 : x.v.data.toList.length = x.v.size := rfl
  have h3 : x.k.data.toList.length = x.k.size := rfl
  omega

end Go.Proofs.YtcngifkoopcmeaaGreatDoor
