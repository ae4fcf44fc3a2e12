/-
  SilenceEnds, walked: it answers true at any silence and time, and turns nothing that was there. The walk of SilenceEntries: a silence is the entry that the document says, or both tell the same error.
-/
import Derived.Test.YtcngifkoopcmeaaGreatDoorK26
import Derived.Test.YtcngifkoopcmeaaGreatDoorK38
namespace Go.Proofs.YtcngifkoopcmeaaGreatDoor
open Go Go.RowKit

/-- One silence in a row. -/
theorem sils_one (w : World) (x : Sm) (hm : MtsAt w x.ad x.s.ms) : SilsAt (w.alloc (.cells #[.string x.s.id, .slice x.ad x.s.ms.length x.cp, .int .i64 x.s.st, .int .i64 x.s.en] 55)) (some ⟨w.heap.size, 0, none⟩) [x] := fun _ => by
  have n0 := newE w (.cells #[.string x.s.id, .slice x.ad x.s.ms.length x.cp, .int .i64 x.s.st, .int .i64 x.s.en] 55)
  refine ⟨_, 0, rfl, ltE n0, fun i hi => ?_⟩
  obtain rfl : i = 0 := by have : i < 1 := hi; omega
  exact ⟨⟨cellE n0, cellE n0, cellE n0, cellE n0⟩, hm.below ((Below.refl _ _).alloc (Nat.le_refl _) _) (Nat.le_refl _)⟩
theorem lay_short {s : Sil} (h : silE s = 0) : (layS s.ms s.st s.en).length ≤ 1700 := by
  obtain ⟨-, h2, h3, h4, h5, h6, h7⟩ := silE_zero h
  have q1 := partsMs_short s.ms (fun m hm => good_of (h4 m hm))
  have q2 := itoa_short s.st (by omega) (by omega)
  have q3 := itoa_short s.en (by omega) (by omega)
  unfold layS putList partsS
  simp only [List.flatten_append, List.flatten_cons, List.flatten_nil, List.length_append, List.length_cons, List.length_nil]
  omega

end Go.Proofs.YtcngifkoopcmeaaGreatDoor
namespace Go.Proofs.YtcngifkoopcmeaaGreatDoor
open Go Go.RowKit

/-- What Entry tells. -/
def ansS (s : Sil) (t o : Int) : Ent := if entryE s t = 0 then entS s t o else zeroE
theorem sEntry_any (s : Sil) (a : Option Addr) (c : Nat) (t o : Int) (w : World) (htab : TabW w) (hm : MtsAt w a s.ms) (hml : s.ms.length ≤ 9223372036854775807) (B : Nat) (hB : B ≤ w.heap.size) (hv : VarsOk B w) (n : Nat) (hn : n = s.ms.length) :
    Calls Tryz.prog 23 #[.agg #[.string s.id, .slice a n c, .int .i64 s.st, .int .i64 s.en], .int .i64 t, .int .u16 o] w fun e w' => e = .returned (.tuple #[.agg #[.string (ansS s t o).k, .int .i64 (ansS s t o).t, .int .u16 (ansS s t o).o, .string (ansS s t o).v, .int .i64 (ansS s t o).u], .int .i64 (entryE s t)]) ∧ Below w.heap.size w w' := by
  unfold ansS
  by_cases he : entryE s t = 0
  · rw [if_pos he, he]
    exact sEntry_ok s a c t o w htab hm he B hB hv n hn
  · rw [if_neg he]
    exact sEntry_err s a c t o w htab hm hml he n hn
theorem yEntry_any (s : Sil) (a : Option Addr) (c : Nat) (t o : Int) (w : World) (hm : MtsAt w a s.ms) (hml : s.ms.length ≤ 9223372036854775807) (hid : s.id.size ≤ 9223372036854775807) (hz : ∀ m ∈ s.ms, m.1.size ≤ 9223372036854775807) (n : Nat) (hn : n = s.ms.length) :
    Calls Tryz.prog 24 #[.agg #[.string s.id, .slice a n c, .int .i64 s.st, .int .i64 s.en], .int .i64 t, .int .u16 o] w fun e w' => e = .returned (.tuple #[.agg #[.string (ansS s t o).k, .int .i64 (ansS s t o).t, .int .u16 (ansS s t o).o, .string (ansS s t o).v, .int .i64 (ansS s t o).u], .int .i64 (entryE s t)]) ∧ Below w.heap.size w w' := by
  unfold ansS
  by_cases he : entryE s t = 0
  · rw [if_pos he, he]
    exact yEntry_ok s a c t o w hm he n hn
  · rw [if_neg he]
    exact yEntry_err s a c t o w hm hml hid hz he n hn

set_option maxRecDepth 100000 in
set_option maxHeartbeats 4000000 in
theorem ents_walkS (x : Sm) (time o : Int) (w : World) (htab : TabW w) (hv : VarsOk w.heap.size w) (hm : MtsAt w x.ad x.s.ms) (hml : x.s.ms.length ≤ 9223372036854775807) (hid : x.s.id.size ≤ 9223372036854775807) (hz : ∀ m ∈ x.s.ms, m.1.size ≤ 9223372036854775807) :
    Calls Tryz.prog 6 #[.agg #[.string x.s.id, .slice x.ad x.s.ms.length x.cp, .int .i64 x.s.st, .int .i64 x.s.en], .int .i64 time, .int .u16 o] w fun e w' => e = .returned (.bool true) ∧ Below w.heap.size w w' := by
  obtain ⟨n, hn⟩ : ∃ n, n = x.s.ms.length := ⟨_, rfl⟩
  have d1 := (Below.refl w.heap.size w).alloc (Nat.le_refl _) (.cells #[.string x.s.id, .slice x.ad x.s.ms.length x.cp, .int .i64 x.s.st, .int .i64 x.s.en] 55)
  have b1 := SBlk.new w x.s.id x.ad x.s.ms.length x.cp x.s.st x.s.en
  have d2 := (Below.refl (w.alloc (.cells #[.string x.s.id, .slice x.ad x.s.ms.length x.cp, .int .i64 x.s.st, .int .i64 x.s.en] 55)).heap.size (w.alloc (.cells #[.string x.s.id, .slice x.ad x.s.ms.length x.cp, .int .i64 x.s.st, .int .i64 x.s.en] 55))).alloc (Nat.le_refl _) (.cells #[.string x.s.id, .slice x.ad x.s.ms.length x.cp, .int .i64 x.s.st, .int .i64 x.s.en] 55)
  have hso := sils_one (w.alloc (.cells #[.string x.s.id, .slice x.ad x.s.ms.length x.cp, .int .i64 x.s.st, .int .i64 x.s.en] 55)) x (hm.below d1 (Nat.le_refl _))
  rw [World.size_alloc] at hso
  have hL := yLight_any (some ⟨w.heap.size + 1, 0, none⟩) 1 [x] _ hso 1 rfl (by omega)
  have b2 := b1.on d2
  have D2 := d1.trans (d2.mono d1.size)
  have HX := Lib.hid (And.intro htab (And.intro hv (And.intro hm hml)))
  have HA : Hid (∀ W, Below w.heap.size w W → Calls Tryz.prog 22 #[] W fun e w' => e = .returned (.bool true) ∧ Below W.heap.size W w') := Lib.hid (fun W hW => slawake_any w.heap.size W hW.size (HX.out.2.1.on hW) (htab.on hW htab.lt))
  have HE1 : Hid (∀ W, Below w.heap.size w W → Calls Tryz.prog 23 #[.agg #[.string x.s.id, .slice x.ad n x.cp, .int .i64 x.s.st, .int .i64 x.s.en], .int .i64 time, .int .u16 o] W fun e w' => e = .returned (.tuple #[.agg #[.string (ansS x.s time o).k, .int .i64 (ansS x.s time o).t, .int .u16 (ansS x.s time o).o, .string (ansS x.s time o).v, .int .i64 (ansS x.s time o).u], .int .i64 (entryE x.s time)]) ∧ Below W.heap.size W w') := Lib.hid (fun W hW => sEntry_any x.s x.ad x.cp time o W (htab.on hW htab.lt) (hm.below hW (Nat.le_refl _)) hml w.heap.size hW.size (hv.on hW) n hn)
  have HE2 : Hid (∀ W, Below w.heap.size w W → Calls Tryz.prog 24 #[.agg #[.string x.s.id, .slice x.ad n x.cp, .int .i64 x.s.st, .int .i64 x.s.en], .int .i64 time, .int .u16 o] W fun e w' => e = .returned (.tuple #[.agg #[.string (ansS x.s time o).k, .int .i64 (ansS x.s time o).t, .int .u16 (ansS x.s time o).o, .string (ansS x.s time o).v, .int .i64 (ansS x.s time o).u], .int .i64 (entryE x.s time)]) ∧ Below W.heap.size W w') := Lib.hid (fun W hW => yEntry_any x.s x.ad x.cp time o W (hm.below hW (Nat.le_refl _)) hml hid hz n hn)
  have HC1 : Hid (∀ W, Below w.heap.size w W → Calls Tryz.prog 25 #[.agg #[.string x.s.id, .slice x.ad n x.cp, .int .i64 x.s.st, .int .i64 x.s.en]] W fun e w' => e = .returned (.int .i64 (silE x.s)) ∧ Below W.heap.size W w') := Lib.hid (fun W hW => hn ▸ sCheck_any x.s x.ad x.cp W (htab.on hW htab.lt) (hm.below hW (Nat.le_refl _)) hml)
  have HC2 : Hid (∀ W, Below w.heap.size w W → Calls Tryz.prog 26 #[.agg #[.string x.s.id, .slice x.ad n x.cp, .int .i64 x.s.st, .int .i64 x.s.en]] W fun e w' => e = .returned (.int .i64 (silE x.s)) ∧ Below W.heap.size W w') := Lib.hid (fun W hW => hn ▸ yCheck_any x.s x.ad x.cp W (hm.below hW (Nat.le_refl _)) hml hid hz)
  obtain ⟨q, hq⟩ : ∃ q, q = decide (LightS [x]) := ⟨_, rfl⟩
  rw [← hq] at hL
  rw [← hn] at hL b2 D2 ⊢
  have HL := Lib.hid hL
  have HB := Lib.hid (And.intro b2 D2)
  clear d1 b1 d2 hso hL b2 D2 htab hv hm hml hn hq hid hz HX
  generalize ansS x.s time o = A at *
  generalize entryE x.s time = E at *
  generalize silE x.s = C at *
  obtain ⟨⟨id, ms, st, en⟩, ad, cp⟩ := x
  dsimp only at *
  cases q with
  | false =>
    clear HE1 HE2 HC1 HC2
    go_enter Tryz.func6, Tryz.ntmps6
    go_wp2_with (go_at_call 21; refine HL.out.mono ?_; rintro e w2 ⟨rfl, hw2⟩; replace hw2 := Lib.hid hw2; refine Hid.out ?_)
    refine Lib.hid ?_
    have D2 := HB.out.2
    rw [← hw2.out] at D2
    have HC := Lib.hid (HA.out w2 D2)
    have HD := Lib.hid D2
    clear D2 HL hw2 HB
    go_wp2_with (go_at_call 22; refine HC.out.mono ?_; rintro e w6 ⟨rfl, q6⟩; replace q6 := Lib.hid q6; refine Hid.out ?_)
    refine Lib.hid ?_
    have HF := Lib.hid (HD.out.trans (q6.out.mono HD.out.size))
    clear q6 HC HD
    go_wp2
    go_ret
    exact ⟨rfl, HF.out⟩
  | true =>
    have hR := fun w => run_eqE A A w
    rw [eqEn_refl] at hR
    have HR := Lib.hid hR
    clear hR
    go_enter Tryz.func6, Tryz.ntmps6
    go_wp2_with (go_at_call 21; refine HL.out.mono ?_; rintro e w2 ⟨rfl, hw2⟩; replace hw2 := Lib.hid hw2; refine Hid.out ?_)
    refine Lib.hid ?_
    obtain ⟨b2, D2⟩ := HB.out
    rw [← hw2.out] at b2 D2
    have HS := Lib.hid (And.intro b2 D2)
    have k0 := b2.c0
    have k1 := b2.c1
    have k2 := b2.c2
    have k3 := b2.c3
    have HP1 := Lib.hid (HE1.out w2 D2)
    clear b2 D2 HB HL hw2 HE1
    go_wp2_with (go_at_call 23; refine HP1.out.mono ?_; rintro e u1 ⟨rfl, q1⟩; refine Hid.out ?_)
    refine Lib.hid ?_
    obtain ⟨b1, d1⟩ := HS.out
    have qa := (Below.refl u1.heap.size u1).alloc (Nat.le_refl _) (.cells #[.string A.k, .int .i64 A.t, .int .u16 A.o, .string A.v, .int .i64 A.u] 60)
    have c1 := (b1.on q1).on qa
    have e1 := EBlk.new u1 A
    have d2 := d1.trans (q1.mono d1.size)
    have d3 := d2.trans (qa.mono d2.size)
    clear k0 k1 k2 k3
    have k0 := c1.c0
    have k1 := c1.c1
    have k2 := c1.c2
    have k3 := c1.c3
    have HP2 := Lib.hid (HE2.out _ d3)
    have HZ2 := Lib.hid (And.intro c1 (And.intro e1 d3))
    clear HS b1 d1 q1 qa c1 e1 d2 d3 HP1 HE2
    go_wp2_with (go_at_call 24; refine HP2.out.mono ?_; rintro e u2 ⟨rfl, q2⟩; refine Hid.out ?_)
    refine Lib.hid ?_
    obtain ⟨c1, e1, d3⟩ := HZ2.out
    have qb := (Below.refl u2.heap.size u2).alloc (Nat.le_refl _) (.cells #[.string A.k, .int .i64 A.t, .int .u16 A.o, .string A.v, .int .i64 A.u] 60)
    have c2 := (c1.on q2).on qb
    have e2 := (e1.on q2).on qb
    have e3 := EBlk.new u2 A
    have d4 := d3.trans (q2.mono d3.size)
    have d5 := d4.trans (qb.mono d4.size)
    clear k0 k1 k2 k3 HZ2 c1 e1 d3 q2 qb d4 HP2
    go_wp2_with fail
    generalize hw3 : u2.alloc (.cells #[.string A.k, .int .i64 A.t, .int .u16 A.o, .string A.v, .int .i64 A.u] 60) = w3 at *
    clear hw3
    generalize u1.heap.size = X1 at *
    generalize u2.heap.size = X2 at *
    refine wp_region_any (by kernel_rfl) ?_
    change wpAny _ _ _ _ _ _ _ (World.drew _)
    have hS : (fun w' : World => SBlk w' w.heap.size id ad n cp st en ∧ EBlk w' X1 A ∧ EBlk w' X2 A ∧ Below w.heap.size w w') w3.drew := ⟨c2, e2, e3, d5.drew⟩
    refine wpAny_of_held (S := fun w' => SBlk w' w.heap.size id ad n cp st en ∧ EBlk w' X1 A ∧ EBlk w' X2 A ∧ Below w.heap.size w w') _ _ _ _ ?_
    clear c2 e2 e3 d5
    refine wpAnyH_takeE (i := 0) (some 30) (v := ?_) rfl rfl (by as_aux_lemma => kernel_rfl) (by as_aux_lemma => kernel_rfl) (by as_aux_lemma => kernel_rfl) (fun _ _ _ h => h) (Or.inl ⟨by kernel_rfl, ?_⟩) hS ?_
    rotate_left
    · intro w hSw; have v0 := hSw.2.1.c0; have v1 := hSw.2.1.c1; have v2 := hSw.2.1.c2; have v3 := hSw.2.1.c3; have v4 := hSw.2.1.c4; go_simp
      first | done | with_reducible rfl
    refine wpAnyH_takeE (i := 1) (some 31) (v := ?_) rfl rfl (by as_aux_lemma => kernel_rfl) (by as_aux_lemma => kernel_rfl) (by as_aux_lemma => kernel_rfl) (fun _ _ _ h => h) (Or.inl ⟨by kernel_rfl, ?_⟩) hS ?_
    rotate_left
    · intro w hSw; have v0 := hSw.2.2.1.c0; have v1 := hSw.2.2.1.c1; have v2 := hSw.2.2.1.c2; have v3 := hSw.2.2.1.c3; have v4 := hSw.2.2.1.c4; go_simp
      first | done | with_reducible rfl
    have hR := HR.out
    refine wpAnyH_takeE (i := 2) (some 32) (v := ?_) rfl rfl (by as_aux_lemma => kernel_rfl) (by as_aux_lemma => kernel_rfl) (by as_aux_lemma => kernel_rfl) (fun _ _ _ h => h) (Or.inl ⟨by kernel_rfl, ?_⟩) hS ?_
    rotate_left
    · intro w hSw; skip; go_simp
      first | done | with_reducible rfl
    clear hR
    refine wpAnyH_takeE (i := 3) (some 33) (v := ?_) rfl rfl (by as_aux_lemma => kernel_rfl) (by as_aux_lemma => kernel_rfl) (by as_aux_lemma => kernel_rfl) (fun _ _ _ h => h) (Or.inl ⟨by kernel_rfl, ?_⟩) hS ?_
    rotate_left
    · intro w hSw; skip; go_simp
      first | done | with_reducible rfl
    refine wpAnyH_takeE (i := 4) (some 34) (v := ?_) rfl rfl (by as_aux_lemma => kernel_rfl) (by as_aux_lemma => kernel_rfl) (by as_aux_lemma => kernel_rfl) (fun _ _ _ h => h) (Or.inl ⟨by kernel_rfl, ?_⟩) hS ?_
    rotate_left
    · intro w hSw; skip; go_simp
      first | done | with_reducible rfl
    refine wpAnyH_takeE (i := 5) (some 35) (v := ?_) rfl rfl (by as_aux_lemma => kernel_rfl) (by as_aux_lemma => kernel_rfl) (by as_aux_lemma => kernel_rfl) (fun _ _ _ h => h) (Or.inl ⟨by kernel_rfl, ?_⟩) hS ?_
    rotate_left
    · intro w hSw; skip; go_simp
      first | done | with_reducible rfl
    refine wpAnyH_takeE (i := 6) (some 36) (v := ?_) rfl rfl (by as_aux_lemma => kernel_rfl) (by as_aux_lemma => kernel_rfl) (by as_aux_lemma => kernel_rfl) (fun _ _ _ h => h) (Or.inl ⟨by kernel_rfl, ?_⟩) hS ?_
    rotate_left
    · intro w hSw; skip; go_simp
      first | done | with_reducible rfl
    refine wpAnyH_takeE (i := 7) (some 37) (v := ?_) rfl rfl (by as_aux_lemma => kernel_rfl) (by as_aux_lemma => kernel_rfl) (by as_aux_lemma => kernel_rfl) (fun _ _ _ h => h) (Or.inl ⟨by kernel_rfl, ?_⟩) hS ?_
    rotate_left
    · intro w hSw; skip; go_simp
      first | done | with_reducible rfl
    refine wpAnyH_takeE (i := 8) (some 38) (v := ?_) rfl rfl (by as_aux_lemma => kernel_rfl) (by as_aux_lemma => kernel_rfl) (by as_aux_lemma => kernel_rfl) (fun _ _ _ h => h) (Or.inl ⟨by kernel_rfl, ?_⟩) hS ?_
    rotate_left
    · intro w hSw; skip; go_simp
      first | done | with_reducible rfl
    refine wpAnyH_takeE (i := 9) (some 39) (v := ?_) rfl rfl (by as_aux_lemma => kernel_rfl) (by as_aux_lemma => kernel_rfl) (by as_aux_lemma => kernel_rfl) (fun _ _ _ h => h) (Or.inl ⟨by kernel_rfl, ?_⟩) hS ?_
    rotate_left
    · intro w hSw; have k0 := hSw.1.c0; have k1 := hSw.1.c1; have k2 := hSw.1.c2; have k3 := hSw.1.c3; go_simp
      first | done | with_reducible rfl
    refine wpAnyH_takeE (i := 11) (some 41) (v := ?_) rfl rfl (by as_aux_lemma => kernel_rfl) (by as_aux_lemma => kernel_rfl) (by as_aux_lemma => kernel_rfl) (fun _ _ _ h => h) (Or.inl ⟨by kernel_rfl, ?_⟩) hS ?_
    rotate_left
    · intro w hSw; have k0 := hSw.1.c0; have k1 := hSw.1.c1; have k2 := hSw.1.c2; have k3 := hSw.1.c3; go_simp
      first | done | with_reducible rfl
    refine wpAnyH_ready (rs := [10]) (by as_aux_lemma => kernel_rfl) (by simp) ?_
    refine AllReadyH.cons rfl (fun K hK => ?_) AllReadyH.nil
    go_simp
    go_wp2_with (go_at_call 25; refine (HC1.out _ hS.2.2.2).mono ?_; rintro e u1 ⟨rfl, q1⟩)
    refine hK.out _ _ ?_ (fun hS => ?_)
    · exact ⟨hS.1.on q1, hS.2.1.on q1, hS.2.2.1.on q1, hS.2.2.2.trans (q1.mono hS.2.2.2.size)⟩
    clear hK K
    clear q1
    refine wpAnyH_ready (rs := [12]) (by as_aux_lemma => kernel_rfl) (by simp) ?_
    refine AllReadyH.cons rfl (fun K hK => ?_) AllReadyH.nil
    go_simp
    go_wp2_with (go_at_call 26; refine (HC2.out _ hS.2.2.2).mono ?_; rintro e u2 ⟨rfl, q2⟩)
    refine hK.out _ _ ?_ (fun hS => ?_)
    · exact ⟨hS.1.on q2, hS.2.1.on q2, hS.2.2.1.on q2, hS.2.2.2.trans (q2.mono hS.2.2.2.size)⟩
    clear hK K
    clear q2
    refine wpAnyH_takeE (i := 13) (some 43) (v := ?_) rfl rfl (by as_aux_lemma => kernel_rfl) (by as_aux_lemma => kernel_rfl) (by as_aux_lemma => kernel_rfl) (fun _ _ _ h => h) (Or.inl ⟨by kernel_rfl, ?_⟩) hS ?_
    rotate_left
    · intro w hSw; skip; go_simp
      first | done | with_reducible rfl
    refine wpAnyH_takeE (i := 14) (some 44) (v := ?_) rfl rfl (by as_aux_lemma => kernel_rfl) (by as_aux_lemma => kernel_rfl) (by as_aux_lemma => kernel_rfl) (fun _ _ _ h => h) (Or.inl ⟨by kernel_rfl, ?_⟩) hS ?_
    rotate_left
    · intro w hSw; skip; go_simp
      first | done | with_reducible rfl
    refine wpAnyH_takeE (i := 15) (some 45) (v := ?_) rfl rfl (by as_aux_lemma => kernel_rfl) (by as_aux_lemma => kernel_rfl) (by as_aux_lemma => kernel_rfl) (fun _ _ _ h => h) (Or.inl ⟨by kernel_rfl, ?_⟩) hS ?_
    rotate_left
    · intro w hSw; skip; go_simp
      first | done | with_reducible rfl
    refine wpAnyH_ready (rs := [16]) (by as_aux_lemma => kernel_rfl) (by simp) ?_
    refine AllReadyH.cons rfl (fun K hK => ?_) AllReadyH.nil
    go_simp
    go_wp2_with (go_at_call 22; refine (HA.out _ hS.2.2.2).mono ?_; rintro e u3 ⟨rfl, q3⟩)
    refine hK.out _ _ ?_ (fun hS => ?_)
    · exact ⟨hS.1.on q3, hS.2.1.on q3, hS.2.2.1.on q3, hS.2.2.2.trans (q3.mono hS.2.2.2.size)⟩
    clear hK K
    clear q3
    refine wpAnyH_takeE (i := 17) (some 47) (v := ?_) rfl rfl (by as_aux_lemma => kernel_rfl) (by as_aux_lemma => kernel_rfl) (by as_aux_lemma => kernel_rfl) (fun _ _ _ h => h) (Or.inl ⟨by kernel_rfl, ?_⟩) hS ?_
    rotate_left
    · intro w hSw; skip; go_simp
      first | done | with_reducible rfl
    refine wpAnyH_takeE (i := 18) (some 6) (v := ?_) rfl rfl (by as_aux_lemma => kernel_rfl) (by as_aux_lemma => kernel_rfl) (by as_aux_lemma => kernel_rfl) (fun _ _ _ h => h) (Or.inl ⟨by kernel_rfl, ?_⟩) hS ?_
    rotate_left
    · intro w hSw; skip; go_simp
      first | done | with_reducible rfl
    have h5 := Lib.hid hS.2.2.2
    clear hS
    refine wpAnyH_done (by kernel_rfl) ?_ _
    go_simp
    go_wp2
    go_ret
    exact ⟨by simp, h5.out⟩

end Go.Proofs.YtcngifkoopcmeaaGreatDoor
