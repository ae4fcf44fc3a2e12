/-
  Same of both, in full; SameAll of the reference at two lists of the same silences. Active of the reference.
-/
import Derived.Test.YtcngifkoopcmeaaGreatDoorK46
namespace Go.Proofs.YtcngifkoopcmeaaGreatDoor
open Go Go.RowKit

/-- A silence's cells, in a list. -/
def S4Y (w : World) (b o : Nat) (x : Sm) : Prop := w.cell? ⟨b, o, none⟩ = some (.string x.s.id) ∧ w.cell? ⟨b, o + 1, none⟩ = some (.slice x.ad x.s.ms.length x.cp) ∧ w.cell? ⟨b, o + 2, none⟩ = some (.int .i64 x.s.st) ∧ w.cell? ⟨b, o + 3, none⟩ = some (.int .i64 x.s.en)
theorem S4Y.on {w w' : World} {b o : Nat} {x : Sm} (h : S4Y w b o x) (hb : Below w.heap.size w w') : S4Y w' b o x := by
  have hl := World.block_lt_of_cell? w _ h.1
  exact ⟨(hb.cell (p := ⟨b, o, none⟩) hl).trans h.1, (hb.cell (p := ⟨b, o + 1, none⟩) hl).trans h.2.1, (hb.cell (p := ⟨b, o + 2, none⟩) hl).trans h.2.2.1, (hb.cell (p := ⟨b, o + 3, none⟩) hl).trans h.2.2.2⟩
/-- Two silences are one. -/
def OneS (x y : Sil) : Prop := x.id = y.id ∧ x.ms = y.ms ∧ x.st = y.st ∧ x.en = y.en
set_option maxRecDepth 100000 in
set_option maxHeartbeats 4000000 in
theorem sSame_tells (x y : Sil) (a : Option Addr) (c : Nat) (b : Option Addr) (d : Nat) (w : World) (h1 : MtsAt w a x.ms) (h2 : MtsAt w b y.ms) (hn : x.ms.length ≤ 1000) (hm : y.ms.length ≤ 1000) (n m : Nat) (hnn : n = x.ms.length) (hmm : m = y.ms.length) :
    Calls Tryz.prog 31 #[.agg #[.string x.id, .slice a n c, .int .i64 x.st, .int .i64 x.en], .agg #[.string y.id, .slice b m d, .int .i64 y.st, .int .i64 y.en]] w fun e w' => Tells (OneS x y) e ∧ Below w.heap.size w w' := by
  have d1 := (Below.refl w.heap.size w).alloc (Nat.le_refl _) (.cells #[.string x.id, .slice a n c, .int .i64 x.st, .int .i64 x.en] 55)
  have d2 := (Below.refl (w.alloc (.cells #[.string x.id, .slice a n c, .int .i64 x.st, .int .i64 x.en] 55)).heap.size (w.alloc (.cells #[.string x.id, .slice a n c, .int .i64 x.st, .int .i64 x.en] 55))).alloc (Nat.le_refl _) (.cells #[.string y.id, .slice b m d, .int .i64 y.st, .int .i64 y.en] 55)
  have D2 := d1.trans (d2.mono d1.size)
  have b1 := (SBlk.new w x.id a n c x.st x.en).on d2
  have b2 := SBlk.new (w.alloc (.cells #[.string x.id, .slice a n c, .int .i64 x.st, .int .i64 x.en] 55)) y.id b m d y.st y.en
  rw [World.size_alloc] at b2
  have hE := eqMts_any a c x.ms b d y.ms _ (h1.below D2 (Nat.le_refl _)) (h2.below D2 (Nat.le_refl _)) hn hm
  rw [← hnn, ← hmm] at hE
  have HE := Lib.hid hE
  have k0 := b1.c0; have k1 := b1.c1; have k2 := b1.c2; have k3 := b1.c3
  have j0 := b2.c0; have j1 := b2.c1; have j2 := b2.c2; have j3 := b2.c3
  have HB := Lib.hid (And.intro b1 (And.intro b2 D2))
  clear d1 d2 D2 b1 b2 hE h1 h2 hn hm hnn hmm
  obtain ⟨id, ms, st, en⟩ := x
  obtain ⟨id', ms', st', en'⟩ := y
  dsimp only at *
  by_cases h0 : id = id'
  · subst h0
    go_enter Tryz.func31, Tryz.ntmps31
    go_wp2_with (go_at_call 81; refine HE.out.mono ?_; rintro e w3 ⟨⟨q, rfl, hq⟩, q3⟩; replace q3 := Lib.hid q3; replace hq := Lib.hid hq; refine Hid.out ?_)
    refine Lib.hid ?_
    have c1 := HB.out.1.on q3.out
    have c2 := HB.out.2.1.on q3.out
    clear k0 k1 k2 k3 j0 j1 j2 j3
    have k0 := c1.c0; have k1 := c1.c1; have k2 := c1.c2; have k3 := c1.c3
    have j0 := c2.c0; have j1 := c2.c1; have j2 := c2.c2; have j3 := c2.c3
    have HQ := Lib.hid (HB.out.2.2.trans (q3.out.mono HB.out.2.2.size))
    clear c1 c2 HE
    cases q with
    | false =>
      have hne : ¬ ms = ms' := fun e => absurd (hq.out.2 e) (by simp)
      have HT : Hid (Tells (OneS ⟨id, ms, st, en⟩ ⟨id, ms', st', en'⟩) (.returned (.bool false))) := Lib.hid ⟨false, rfl, ⟨fun h => (by cases h), fun h => absurd h.2.1 hne⟩⟩
      clear hne
      go_wp2
      go_ret
      exact ⟨HT.out, HQ.out⟩
    | true =>
      have hms := hq.out.1 rfl
      by_cases h2 : st = st'
      · subst h2
        by_cases h3 : en = en'
        · subst h3
          have HT : Hid (Tells (OneS ⟨id, ms, st, en⟩ ⟨id, ms', st, en⟩) (.returned (.bool true))) := Lib.hid ⟨true, rfl, ⟨fun _ => ⟨rfl, hms, rfl, rfl⟩, fun _ => rfl⟩⟩
          clear hms
          go_wp2
          go_ret
          exact ⟨HT.out, HQ.out⟩
        · have hb : (en == en') = false := by simpa using h3
          have HT : Hid (Tells (OneS ⟨id, ms, st, en⟩ ⟨id, ms', st, en'⟩) (.returned (.bool false))) := Lib.hid ⟨false, rfl, ⟨fun h => (by cases h), fun h => absurd h.2.2.2 h3⟩⟩
          clear hms
          go_wp2
          go_ret
          exact ⟨HT.out, HQ.out⟩
      · have hb : (st == st') = false := by simpa using h2
        have HT : Hid (Tells (OneS ⟨id, ms, st, en⟩ ⟨id, ms', st', en'⟩) (.returned (.bool false))) := Lib.hid ⟨false, rfl, ⟨fun h => (by cases h), fun h => absurd h.2.2.1 h2⟩⟩
        clear hms
        go_wp2
        go_ret
        exact ⟨HT.out, HQ.out⟩
  · have hb : (id.toList == id'.toList) = false := by
      rw [Bool.eq_false_iff]
      intro e
      rw [beq_iff_eq, ByteArray.toList_eq, ByteArray.toList_eq] at e
      exact h0 (Go.WideShapes.bytes_inj e)
    have HT : Hid (Tells (OneS ⟨id, ms, st, en⟩ ⟨id', ms', st', en'⟩) (.returned (.bool false))) := Lib.hid ⟨false, rfl, ⟨fun h => (by cases h), fun h => absurd h.1 h0⟩⟩
    go_enter Tryz.func31, Tryz.ntmps31
    go_wp2
    go_ret
    exact ⟨HT.out, HB.out.2.2⟩

set_option maxRecDepth 100000 in
set_option maxHeartbeats 4000000 in
theorem ySame_tells (x y : Sil) (a : Option Addr) (c : Nat) (b : Option Addr) (d : Nat) (w : World) (h1 : MtsAt w a x.ms) (h2 : MtsAt w b y.ms) (hn : x.ms.length ≤ 1000) (hm : y.ms.length ≤ 1000) (n m : Nat) (hnn : n = x.ms.length) (hmm : m = y.ms.length) :
    Calls Tryz.prog 29 #[.agg #[.string x.id, .slice a n c, .int .i64 x.st, .int .i64 x.en], .agg #[.string y.id, .slice b m d, .int .i64 y.st, .int .i64 y.en]] w fun e w' => Tells (OneS x y) e ∧ Below w.heap.size w w' := by
  have d1 := (Below.refl w.heap.size w).alloc (Nat.le_refl _) (.cells #[.string x.id, .slice a n c, .int .i64 x.st, .int .i64 x.en] 55)
  have d2 := (Below.refl (w.alloc (.cells #[.string x.id, .slice a n c, .int .i64 x.st, .int .i64 x.en] 55)).heap.size (w.alloc (.cells #[.string x.id, .slice a n c, .int .i64 x.st, .int .i64 x.en] 55))).alloc (Nat.le_refl _) (.cells #[.string y.id, .slice b m d, .int .i64 y.st, .int .i64 y.en] 55)
  have D2 := d1.trans (d2.mono d1.size)
  have b1 := (SBlk.new w x.id a n c x.st x.en).on d2
  have b2 := SBlk.new (w.alloc (.cells #[.string x.id, .slice a n c, .int .i64 x.st, .int .i64 x.en] 55)) y.id b m d y.st y.en
  rw [World.size_alloc] at b2
  have hE := uSameMts_any a c x.ms b d y.ms _ (h1.below D2 (Nat.le_refl _)) (h2.below D2 (Nat.le_refl _)) hn hm
  rw [← hnn, ← hmm] at hE
  have HE := Lib.hid hE
  have k0 := b1.c0; have k1 := b1.c1; have k2 := b1.c2; have k3 := b1.c3
  have j0 := b2.c0; have j1 := b2.c1; have j2 := b2.c2; have j3 := b2.c3
  have HB := Lib.hid (And.intro b1 (And.intro b2 D2))
  clear d1 d2 D2 b1 b2 hE h1 h2 hn hm hnn hmm
  obtain ⟨id, ms, st, en⟩ := x
  obtain ⟨id', ms', st', en'⟩ := y
  dsimp only at *
  by_cases h0 : id = id'
  · subst h0
    by_cases h2 : st = st'
    · subst h2
      by_cases h3 : en = en'
      · subst h3
        go_enter Tryz.func29, Tryz.ntmps29
        go_wp2_with (go_at_call 80; refine HE.out.mono ?_; rintro e w3 ⟨⟨q, rfl, hq⟩, q3⟩; replace q3 := Lib.hid q3; replace hq := Lib.hid hq; refine Hid.out ?_)
        refine Lib.hid ?_
        have c1 := HB.out.1.on q3.out
        have c2 := HB.out.2.1.on q3.out
        clear k0 k1 k2 k3 j0 j1 j2 j3
        have k0 := c1.c0; have k1 := c1.c1; have k2 := c1.c2; have k3 := c1.c3
        have j0 := c2.c0; have j1 := c2.c1; have j2 := c2.c2; have j3 := c2.c3
        have HQ := Lib.hid (HB.out.2.2.trans (q3.out.mono HB.out.2.2.size))
        clear c1 c2 HE
        cases q with
        | false =>
          have hne : ¬ ms = ms' := fun e => absurd (hq.out.2 e) (by simp)
          have HT : Hid (Tells (OneS ⟨id, ms, st, en⟩ ⟨id, ms', st, en⟩) (.returned (.bool false))) := Lib.hid ⟨false, rfl, ⟨fun h => (by cases h), fun h => absurd h.2.1 hne⟩⟩
          clear hne
          go_wp2
          go_ret
          exact ⟨HT.out, HQ.out⟩
        | true =>
          have hms := hq.out.1 rfl
          have HT : Hid (Tells (OneS ⟨id, ms, st, en⟩ ⟨id, ms', st, en⟩) (.returned (.bool true))) := Lib.hid ⟨true, rfl, ⟨fun _ => ⟨rfl, hms, rfl, rfl⟩, fun _ => rfl⟩⟩
          clear hms
          go_wp2
          go_ret
          exact ⟨HT.out, HQ.out⟩
      · have hb : (en == en') = false := by simpa using h3
        have HT : Hid (Tells (OneS ⟨id, ms, st, en⟩ ⟨id, ms', st, en'⟩) (.returned (.bool false))) := Lib.hid ⟨false, rfl, ⟨fun h => (by cases h), fun h => absurd h.2.2.2 h3⟩⟩
        go_enter Tryz.func29, Tryz.ntmps29
        go_wp2
        go_ret
        exact ⟨HT.out, HB.out.2.2⟩
    · have hb : (st == st') = false := by simpa using h2
      have HT : Hid (Tells (OneS ⟨id, ms, st, en⟩ ⟨id, ms', st', en'⟩) (.returned (.bool false))) := Lib.hid ⟨false, rfl, ⟨fun h => (by cases h), fun h => absurd h.2.2.1 h2⟩⟩
      go_enter Tryz.func29, Tryz.ntmps29
      go_wp2
      go_ret
      exact ⟨HT.out, HB.out.2.2⟩
  · have hb : (id.toList == id'.toList) = false := by
      rw [Bool.eq_false_iff]
      intro e
      rw [beq_iff_eq, ByteArray.toList_eq, ByteArray.toList_eq] at e
      exact h0 (Go.WideShapes.bytes_inj e)
    have HT : Hid (Tells (OneS ⟨id, ms, st, en⟩ ⟨id', ms', st', en'⟩) (.returned (.bool false))) := Lib.hid ⟨false, rfl, ⟨fun h => (by cases h), fun h => absurd h.1 h0⟩⟩
    go_enter Tryz.func29, Tryz.ntmps29
    go_wp2
    go_ret
    exact ⟨HT.out, HB.out.2.2⟩

set_option maxRecDepth 100000 in
set_option maxHeartbeats 4000000 in
theorem ySameAll_yes (a : Option Addr) (c : Nat) (L : List Sm) (b : Option Addr) (d : Nat) (M : List Sm) (w : World) (h1 : SilsAt w a L) (h2 : SilsAt w b M) (hs : L.map Sm.s = M.map Sm.s) (hl : ∀ x ∈ L, x.s.ms.length ≤ 1000) (n : Nat) (hn : n = L.length) (hnb : n ≤ 1048576) :
    Calls Tryz.prog 32 #[.slice a n c, .slice b n d] w fun e w' => e = .returned (.bool true) ∧ Below w.heap.size w w' := by
  have hlm : L.length = M.length := by simpa using congrArg List.length hs
  have H1 := Lib.hid h1
  have H2 := Lib.hid h2
  have HN := Lib.hid (And.intro hn (hn.trans hlm))
  have HC : Hid (∀ u, Below w.heap.size w u → ∀ k (hk : k < L.length) (hk2 : k < M.length), Calls Tryz.prog 29 #[.agg #[.string L[k].s.id, .slice L[k].ad L[k].s.ms.length L[k].cp, .int .i64 L[k].s.st, .int .i64 L[k].s.en], .agg #[.string M[k].s.id, .slice M[k].ad M[k].s.ms.length M[k].cp, .int .i64 M[k].s.st, .int .i64 M[k].s.en]] u fun e w' => e = .returned (.bool true) ∧ Below u.heap.size u w') := Lib.hid (fun u hu k hk hk2 => by
    have e1 : L[k].s = M[k].s := by
      have := List.getElem_of_eq hs (i := k) (by simpa using hk)
      simpa using this
    obtain ⟨b3, o3, -, -, hc⟩ := h1.below hu (Nat.le_refl _) (Nat.lt_of_le_of_lt (Nat.zero_le _) hk)
    obtain ⟨b4, o4, -, -, hd⟩ := h2.below hu (Nat.le_refl _) (Nat.lt_of_le_of_lt (Nat.zero_le _) hk2)
    rw [← e1]
    exact ySame_yes L[k].s L[k].ad L[k].cp M[k].ad M[k].cp u (hc k hk).2 (e1 ▸ (hd k hk2).2) (hl _ (List.getElem_mem hk)) _ rfl)
  clear h1 h2 hs hl hn hlm
  go_enter Tryz.func32, Tryz.ntmps32
  go_wp2
  go_loopw [5] (fun s5 wr => ∃ k : Nat, k ≤ n ∧ s5 = .int .i64 k ∧ Hid (Below w.heap.size w wr)) (fun i _ => n - (intOf i).toNat)
  case atStart => exact ⟨0, Nat.zero_le _, rfl, Lib.hid (Below.refl _ _)⟩
  case round =>
    obtain ⟨k, hk, rfl, HB⟩ := hrel
    by_cases hlt : k < n
    · have hkl : (k : Int) < (n : Int) := by omega
      have hk1 : k < L.length := by have := HN.out.1; omega
      have hk2 : k < M.length := by have := HN.out.2; omega
      obtain ⟨b1, o1, rfl, hb1, hcx⟩ := H1.out (by omega)
      obtain ⟨b2, o2, rfl, hb2, hcy⟩ := H2.out (by omega)
      obtain ⟨⟨p0, p1, p2, p3⟩, -⟩ := hcx k hk1
      obtain ⟨⟨q0, q1, q2, q3⟩, -⟩ := hcy k hk2
      have HC1 := Lib.hid (HC.out wr.drew HB.out.drew k hk1 hk2)
      have hx : S4Y wr b1 (o1 + k * 4) L[k] := ⟨(HB.out.cell (p := ⟨b1, o1 + k * 4, none⟩) hb1).trans p0, (HB.out.cell (p := ⟨b1, o1 + k * 4 + 1, none⟩) hb1).trans p1, (HB.out.cell (p := ⟨b1, o1 + k * 4 + 2, none⟩) hb1).trans p2, (HB.out.cell (p := ⟨b1, o1 + k * 4 + 3, none⟩) hb1).trans p3⟩
      have hy : S4Y wr b2 (o2 + k * 4) M[k] := ⟨(HB.out.cell (p := ⟨b2, o2 + k * 4, none⟩) hb2).trans q0, (HB.out.cell (p := ⟨b2, o2 + k * 4 + 1, none⟩) hb2).trans q1, (HB.out.cell (p := ⟨b2, o2 + k * 4 + 2, none⟩) hb2).trans q2, (HB.out.cell (p := ⟨b2, o2 + k * 4 + 3, none⟩) hb2).trans q3⟩
      clear hcx hcy p0 p1 p2 p3 q0 q1 q2 q3 hb1 hb2
      generalize L[k] = x at *
      generalize M[k] = y at *
      obtain ⟨⟨xi, xm, xs, xe⟩, xa, xc⟩ := x
      obtain ⟨⟨yi, ym, ys, ye⟩, ya, yc⟩ := y
      dsimp only at HC1
      clear hk1 hk2
      go_wp2_with fail
      refine wp_region_any (by kernel_rfl) ?_
      change wpAny _ _ _ _ _ _ _ (World.drew _)
      have hS : (fun w' : World => S4Y w' b1 (o1 + k * 4) ⟨⟨xi, xm, xs, xe⟩, xa, xc⟩ ∧ S4Y w' b2 (o2 + k * 4) ⟨⟨yi, ym, ys, ye⟩, ya, yc⟩) wr.drew := ⟨hx, hy⟩
      refine wpAny_of_held (S := fun w' => S4Y w' b1 (o1 + k * 4) ⟨⟨xi, xm, xs, xe⟩, xa, xc⟩ ∧ S4Y w' b2 (o2 + k * 4) ⟨⟨yi, ym, ys, ye⟩, ya, yc⟩) _ _ _ _ ?_
      clear hx hy
      refine wpAnyH_takeE (i := 0) (some 17) (v := ?_) rfl rfl (by as_aux_lemma => kernel_rfl) (by as_aux_lemma => kernel_rfl) (by as_aux_lemma => kernel_rfl) (fun _ _ _ h => h) (Or.inl ⟨by kernel_rfl, ?_⟩) hS ?_
      rotate_left
      · intro w hSw; have c0 := hSw.1.1; have c1 := hSw.1.2.1; have c2 := hSw.1.2.2.1; have c3 := hSw.1.2.2.2; dsimp only at c0 c1 c2 c3; go_simp
        first | done | with_reducible rfl
      refine wpAnyH_takeE (i := 1) (some 18) (v := ?_) rfl rfl (by as_aux_lemma => kernel_rfl) (by as_aux_lemma => kernel_rfl) (by as_aux_lemma => kernel_rfl) (fun _ _ _ h => h) (Or.inl ⟨by kernel_rfl, ?_⟩) hS ?_
      rotate_left
      · intro w hSw; have c0 := hSw.1.1; have c1 := hSw.1.2.1; have c2 := hSw.1.2.2.1; have c3 := hSw.1.2.2.2; dsimp only at c0 c1 c2 c3; go_simp
        first | done | with_reducible rfl
      refine wpAnyH_takeE (i := 2) (some 19) (v := ?_) rfl rfl (by as_aux_lemma => kernel_rfl) (by as_aux_lemma => kernel_rfl) (by as_aux_lemma => kernel_rfl) (fun _ _ _ h => h) (Or.inl ⟨by kernel_rfl, ?_⟩) hS ?_
      rotate_left
      · intro w hSw; have c0 := hSw.1.1; have c1 := hSw.1.2.1; have c2 := hSw.1.2.2.1; have c3 := hSw.1.2.2.2; dsimp only at c0 c1 c2 c3; go_simp
        first | done | with_reducible rfl
      refine wpAnyH_takeE (i := 3) (some 20) (v := ?_) rfl rfl (by as_aux_lemma => kernel_rfl) (by as_aux_lemma => kernel_rfl) (by as_aux_lemma => kernel_rfl) (fun _ _ _ h => h) (Or.inl ⟨by kernel_rfl, ?_⟩) hS ?_
      rotate_left
      · intro w hSw; have c0 := hSw.1.1; have c1 := hSw.1.2.1; have c2 := hSw.1.2.2.1; have c3 := hSw.1.2.2.2; dsimp only at c0 c1 c2 c3; go_simp
        first | done | with_reducible rfl
      refine wpAnyH_takeE (i := 4) (some 21) (v := ?_) rfl rfl (by as_aux_lemma => kernel_rfl) (by as_aux_lemma => kernel_rfl) (by as_aux_lemma => kernel_rfl) (fun _ _ _ h => h) (Or.inl ⟨by kernel_rfl, ?_⟩) hS ?_
      rotate_left
      · intro w hSw; have c0 := hSw.2.1; have c1 := hSw.2.2.1; have c2 := hSw.2.2.2.1; have c3 := hSw.2.2.2.2; dsimp only at c0 c1 c2 c3; go_simp
        first | done | with_reducible rfl
      refine wpAnyH_takeE (i := 5) (some 22) (v := ?_) rfl rfl (by as_aux_lemma => kernel_rfl) (by as_aux_lemma => kernel_rfl) (by as_aux_lemma => kernel_rfl) (fun _ _ _ h => h) (Or.inl ⟨by kernel_rfl, ?_⟩) hS ?_
      rotate_left
      · intro w hSw; have c0 := hSw.2.1; have c1 := hSw.2.2.1; have c2 := hSw.2.2.2.1; have c3 := hSw.2.2.2.2; dsimp only at c0 c1 c2 c3; go_simp
        first | done | with_reducible rfl
      refine wpAnyH_takeE (i := 6) (some 23) (v := ?_) rfl rfl (by as_aux_lemma => kernel_rfl) (by as_aux_lemma => kernel_rfl) (by as_aux_lemma => kernel_rfl) (fun _ _ _ h => h) (Or.inl ⟨by kernel_rfl, ?_⟩) hS ?_
      rotate_left
      · intro w hSw; have c0 := hSw.2.1; have c1 := hSw.2.2.1; have c2 := hSw.2.2.2.1; have c3 := hSw.2.2.2.2; dsimp only at c0 c1 c2 c3; go_simp
        first | done | with_reducible rfl
      refine wpAnyH_takeE (i := 7) (some 24) (v := ?_) rfl rfl (by as_aux_lemma => kernel_rfl) (by as_aux_lemma => kernel_rfl) (by as_aux_lemma => kernel_rfl) (fun _ _ _ h => h) (Or.inl ⟨by kernel_rfl, ?_⟩) hS ?_
      rotate_left
      · intro w hSw; have c0 := hSw.2.1; have c1 := hSw.2.2.1; have c2 := hSw.2.2.2.1; have c3 := hSw.2.2.2.2; dsimp only at c0 c1 c2 c3; go_simp
        first | done | with_reducible rfl
      refine wpAnyH_ready (rs := [8]) (by as_aux_lemma => kernel_rfl) (by simp) ?_
      refine AllReadyH.cons rfl (fun K hK => ?_) AllReadyH.nil
      go_simp
      go_wp2_with (go_at_call 29; refine HC1.out.mono ?_; rintro e w3 ⟨rfl, q3⟩)
      refine hK.out _ _ ?_ (fun hS => ?_)
      · exact ⟨hS.1.on q3, hS.2.on q3⟩
      clear hK K
      have HB3 := Lib.hid (HB.out.drew.trans (q3.mono HB.out.drew.size))
      clear q3
      refine wpAnyH_takeE (i := 9) (some 26) (v := ?_) rfl rfl (by as_aux_lemma => kernel_rfl) (by as_aux_lemma => kernel_rfl) (by as_aux_lemma => kernel_rfl) (fun _ _ _ h => h) (Or.inl ⟨by kernel_rfl, ?_⟩) hS ?_
      rotate_left
      · intro w hSw; skip; go_simp
        first | done | with_reducible rfl
      clear hS
      refine wpAnyH_done (by kernel_rfl) ?_ _
      go_simp
      go_wp2
      go_roundw
      case rel => exact ⟨k + 1, by omega, by go_num, HB3⟩
      case measure => simp [intOf]; omega
    · have hkl : ¬ (k : Int) < (n : Int) := by omega
      go_wp2
      go_ret
      exact ⟨rfl, HB.out⟩

end Go.Proofs.YtcngifkoopcmeaaGreatDoor
namespace Go.Proofs.YtcngifkoopcmeaaGreatDoor
open Go Go.RowKit

theorem yOf_none (x : Ent) (hvs : x.v.size ≤ 1048576) (hks : x.k.size ≤ 1048576) (w : World) (ho : ofS x = none) :
    Calls Tryz.prog 28 #[.agg #[.string x.k, .int .i64 x.t, .int .u16 x.o, .string x.v, .int .i64 x.u]] w fun e w' => e = .returned (.tuple #[.agg #[.string ⟨#[]⟩, .slice none 0 0, .int .i64 0, .int .i64 0], .bool false]) ∧ Below w.heap.size w w' := by
  refine (yOf_any x hvs hks w).mono ?_
  rintro e w' ⟨h | h, hb⟩
  · obtain ⟨s, a, c, hs, -⟩ := h
    exact absurd hs (ofS_none ho s)
  · exact ⟨h.2, hb⟩
theorem yOf_some (x : Ent) (hvs : x.v.size ≤ 1048576) (hks : x.k.size ≤ 1048576) (w : World) (s : Sil) (hs : IsE s x) :
    Calls Tryz.prog 28 #[.agg #[.string x.k, .int .i64 x.t, .int .u16 x.o, .string x.v, .int .i64 x.u]] w fun e w' => ∃ a c, e = .returned (.tuple #[.agg #[.string s.id, .slice a s.ms.length c, .int .i64 s.st, .int .i64 s.en], .bool true]) ∧ MtsAt w' a s.ms ∧ (∀ q, a = some q → w.heap.size ≤ q.block) ∧ Below w.heap.size w w' := by
  refine (yOf_any x hvs hks w).mono ?_
  rintro e w' ⟨h | h, hb⟩
  · obtain ⟨s', a, c, hs', he, hm, hf⟩ := h
    obtain rfl := hs'.uniq hs
    exact ⟨a, c, he, hm, hf, hb⟩
  · exact absurd hs (h.1 s)
set_option maxRecDepth 100000 in
set_option maxHeartbeats 4000000 in
theorem yActive_any (a : Option Addr) (c : Nat) (l : List Ent) (now : Int) (w : World) (he : EntsAt w a l) (hsz : ∀ x ∈ l, x.v.size ≤ 1048576 ∧ x.k.size ≤ 1048576) (n : Nat) (hn : n = l.length) (hl : n ≤ 1048576) :
    Calls Tryz.prog 34 #[.slice a n c, .int .i64 now] w (ActPost w l now) := by
  obtain ⟨i0, hi, hz0, hz1, hz2⟩ := info_parts infoSm
  have HN := Lib.hid hn
  have HX := Lib.hid (And.intro he hsz)
  clear hn he hsz
  go_enter Tryz.func34, Tryz.ntmps34
  go_wp2
  go_loopw [5, 6] (fun va i wr => ∃ (k : Nat) (a7 : Option Addr) (n7 c7 : Nat) (M : List Sm), k ≤ n ∧ i = .int .i64 k ∧ va = .slice a7 n7 c7 ∧ Hid (RowS wr w.heap.size (.slice a7 n7 c7) M ∧ M.map Sm.s = activeL (l.take k) now ∧ Below w.heap.size w wr)) (fun _ i _ => n - (intOf i).toNat)
  case atStart => exact ⟨0, none, 0, 0, [], Nat.zero_le _, rfl, rfl, Lib.hid ⟨RowS.nil _ _, by simp [activeL], Below.refl _ _⟩⟩
  case round =>
    obtain ⟨k, a7, n7, c7, M, hk, rfl, rfl, HR⟩ := hrel
    by_cases hlt : k < n
    · have hkl : (k : Int) < (n : Int) := by omega
      have HLT := Lib.hid hlt
      have hkx : k < l.length := by have := HN.out; omega
      obtain ⟨b, o, rfl, hb, c0, c1, c2, c3, c4⟩ := (HX.out.1.onS HR.out.2.2 (Nat.le_refl _)).five k hkx
      have HNx := Lib.hid (activeL_next l now k hkx)
      have HSz := Lib.hid (HX.out.2 _ (List.getElem_mem hkx))
      generalize l[k] = x at *
      have d1 := Below.refl wr.heap.size wr
      have D1 := HR.out.2.2.trans (d1.mono HR.out.2.2.size)
      have HD1 := Lib.hid (And.intro d1 D1)
      cases ho : ofS x with
      | none =>
        have HC := Lib.hid (yOf_none x HSz.out.1 HSz.out.2 wr ho)
        have hact : actOf now x = none := by unfold actOf; rw [ho]; rfl
        rw [hact] at HNx
        clear ho hact d1 D1 hkx hb HSz
        obtain ⟨kx, tx, ox, vx, ux⟩ := x
        dsimp only at *
        go_wp2_with (go_at_call 28; refine HC.out.mono ?_; rintro e w2 ⟨rfl, q2⟩; refine Hid.out ?_)
        refine Lib.hid ?_
        have d3 := HD1.out.1.trans (q2.mono HD1.out.1.size)
        have e3 := (Below.refl w2.heap.size w2).alloc (Nat.le_refl _) (.cells #[.string ⟨#[]⟩, .slice none 0 0, .int .i64 0, .int .i64 0] 55)
        have d4 := d3.trans (e3.mono d3.size)
        have HF := Lib.hid (And.intro (HR.out.1.on d4) (HR.out.2.2.trans (d4.mono HR.out.2.2.size)))
        clear d3 e3 d4 q2 c0 c1 c2 c3 c4 HC HD1
        go_wp2
        go_roundw
        case rel => exact ⟨k + 1, _, _, _, M, by have := HLT.out; omega, by go_num, rfl, Lib.hid ⟨HF.out.1, by rw [HNx.out, HR.out.2.1]; simp, HF.out.2⟩⟩
        case measure => have := HLT.out; simp [intOf]; omega
      | some s =>
        have hs := ofS_some.1 ho
        have HC := Lib.hid (yOf_some x HSz.out.1 HSz.out.2 wr s hs)
        have hpos : 0 < s.ms.length := (silE_zero (entryE_zero hs.1).1).2.2.1
        have HPos := Lib.hid hpos
        have hnl : M.length ≤ k := by
          have h1 := congrArg List.length HR.out.2.1
          rw [List.length_map] at h1
          have h2 := activeL_len (l.take k) now
          rw [List.length_take] at h2
          omega
        have HML := Lib.hid hnl
        by_cases hin : s.st ≤ now ∧ now < s.en
        · have hact : actOf now x = some s := by unfold actOf; rw [ho]; simp [hin]
          rw [hact] at HNx
          clear ho hs hact d1 D1 hkx hb HSz hpos hnl
          obtain ⟨id, ms, st, en⟩ := s
          obtain ⟨kx, tx, ox, vx, ux⟩ := x
          dsimp only at *
          obtain ⟨nm, hnm⟩ : ∃ nm, nm = ms.length := ⟨_, rfl⟩
          rw [← hnm] at HC
          have HNM := Lib.hid hnm
          clear hnm
          obtain ⟨hi1, hi2⟩ := hin
          go_wp2_with (go_at_call 28; refine HC.out.mono ?_; rintro e w2 ⟨as2, cs2, rfl, hm, hlw, q2⟩; have HMw := Lib.hid (And.intro hm (And.intro hlw q2)); clear hm hlw q2; refine Hid.out ?_)
          refine Lib.hid ?_
          obtain ⟨hm, hlw, q2⟩ := HMw.out
          have d3 := HD1.out.1.trans (q2.mono HD1.out.1.size)
          have e3 := (Below.refl w2.heap.size w2).alloc (Nat.le_refl _) (.cells #[.string id, .slice as2 nm cs2, .int .i64 st, .int .i64 en] 55)
          have d4 := d3.trans (e3.mono d3.size)
          have e5 := (Below.refl (w2.alloc (.cells #[.string id, .slice as2 nm cs2, .int .i64 st, .int .i64 en] 55)).heap.size (w2.alloc (.cells #[.string id, .slice as2 nm cs2, .int .i64 st, .int .i64 en] 55))).alloc (Nat.le_refl _) (.cells #[.string id, .slice as2 nm cs2, .int .i64 st, .int .i64 en] 55)
          have hown := ((HR.out.1.on d4).on e5).own
          have hmx := hm.below e3 (Nat.le_refl _)
          have hq : ∀ q, as2 = some q → wr.heap.size ≤ q.block ∧ q.block < (w2.alloc (.cells #[.string id, .slice as2 nm cs2, .int .i64 st, .int .i64 en] 55)).heap.size := fun q hq => by
            have h1 := hlw q hq
            obtain ⟨b9, o9, e9, h9, -⟩ := hmx HPos.out
            rw [hq] at e9
            obtain rfl := Option.some.inj e9
            exact ⟨h1, h9⟩
          have hz : w.heap.size ≤ ((w2.alloc (.cells #[.string id, .slice as2 nm cs2, .int .i64 st, .int .i64 en] 55)).alloc (.cells #[.string id, .slice as2 nm cs2, .int .i64 st, .int .i64 en] 55)).heap.size := by
            have h1 := HR.out.2.2.size
            have h2 := d4.size
            simp only [World.size_alloc] at h2 ⊢
            omega
          have hnew : ((w2.alloc (.cells #[.string id, .slice as2 nm cs2, .int .i64 st, .int .i64 en] 55)).alloc (.cells #[.string id, .slice as2 nm cs2, .int .i64 st, .int .i64 en] 55)).heap[w2.heap.size + 1]? = some (.cells #[.string id, .slice as2 nm cs2, .int .i64 st, .int .i64 en] 55) := by
            have := newE (w2.alloc (.cells #[.string id, .slice as2 nm cs2, .int .i64 st, .int .i64 en] 55)) (.cells #[.string id, .slice as2 nm cs2, .int .i64 st, .int .i64 en] 55)
            rwa [World.size_alloc] at this
          have hbd : M.length + 1 ≤ 1048577 := by have := HML.out; have := HLT.out; omega
          have HF := Lib.hid (And.intro d4 (And.intro e5 (And.intro hmx hq)))
          clear d3 e3 d4 e5 hmx hq hm hlw q2 HC HD1 c0 c1 c2 c3 c4 HMw
          go_wp2_with (at_builtin; refine Hid.out ?_)
          refine Lib.hid ?_
          refine wpList_append_own_at _ rfl _ _ 58 rfl w.heap.size 55 i0 (.agg #[.string ⟨#[]⟩, .slice none 0 0, .int .i64 0, .int .i64 0]) 4 56 Tryz.underlying58 hi hz0 hz1 hz2 rfl (by decide) _ _ _ rfl hown ⟨w2.heap.size + 1, 0, none⟩ 1 1 [.string id, .slice as2 nm cs2, .int .i64 st, .int .i64 en] rfl rfl (World.news_of_block (cs := #[.string id, .slice as2 nm cs2, .int .i64 st, .int .i64 en]) hnew) (by intro u' hu'; simp at hu'; rcases hu' with rfl | rfl | rfl | rfl <;> rfl) (by unfold maxLen; omega) (by omega) hz ?_
          intro v' w6 hown6 hg6 _ hat6
          obtain ⟨d4, e5, hmx, hq⟩ := HF.out
          have hrow6 := HR.out.1.step (x := ⟨⟨id, ms, st, en⟩, as2, cs2⟩) d4 hmx hq (by have := hown6; rw [HNM.out] at this; exact this) hg6 (hat6.imp (fun h => h) (fun e => by rw [e]; simp))
          have D6 : Below w.heap.size w w6 := (HR.out.2.2.trans ((d4.trans (e5.mono d4.size)).mono HR.out.2.2.size)).grown hg6 hz (fun j hj => (World.ownsRow.lt HR.out.1.own j hj).1)
          obtain ⟨g', cap', rfl⟩ := ownsRow_succ hown6
          have HG := Lib.hid (And.intro hrow6 D6)
          clear hrow6 D6 hown6 hg6 hat6 d4 e5 hmx hq HF hown hnew hz hbd
          go_wp2
          go_roundw
          case rel => exact ⟨k + 1, _, _, _, M ++ [⟨⟨id, ms, st, en⟩, as2, cs2⟩], by have := HLT.out; omega, by go_num, rfl, Lib.hid ⟨HG.out.1, by rw [HNx.out, List.map_append, HR.out.2.1]; rfl, HG.out.2⟩⟩
          case measure => have := HLT.out; simp [intOf]; omega
        · have hact : actOf now x = none := by unfold actOf; rw [ho]; simp [hin]
          rw [hact] at HNx
          clear ho hs hact d1 D1 hkx hb HSz hpos hnl
          obtain ⟨id, ms, st, en⟩ := s
          obtain ⟨kx, tx, ox, vx, ux⟩ := x
          dsimp only at *
          obtain ⟨nm, hnm⟩ : ∃ nm, nm = ms.length := ⟨_, rfl⟩
          rw [← hnm] at HC
          clear hnm
          have HIN := Lib.hid hin
          clear hin
          go_wp2_with (go_at_call 28; refine HC.out.mono ?_; rintro e w2 ⟨as2, cs2, rfl, -, -, q2⟩; have HMw := Lib.hid q2; clear q2; refine Hid.out ?_)
          refine Lib.hid ?_
          have d3 := HD1.out.1.trans (HMw.out.mono HD1.out.1.size)
          have e3 := (Below.refl w2.heap.size w2).alloc (Nat.le_refl _) (.cells #[.string id, .slice as2 nm cs2, .int .i64 st, .int .i64 en] 55)
          have d4 := d3.trans (e3.mono d3.size)
          have HF := Lib.hid (And.intro (HR.out.1.on d4) (HR.out.2.2.trans (d4.mono HR.out.2.2.size)))
          clear d3 e3 d4 c0 c1 c2 c3 c4 HC HD1 HMw
          by_cases h1 : st ≤ now
          · have h2 : ¬ now < en := fun h => HIN.out ⟨h1, h⟩
            go_wp2
            go_roundw
            case rel => exact ⟨k + 1, _, _, _, M, by have := HLT.out; omega, by go_num, rfl, Lib.hid ⟨HF.out.1, by rw [HNx.out, HR.out.2.1]; simp, HF.out.2⟩⟩
            case measure => have := HLT.out; simp [intOf]; omega
          · go_wp2
            go_roundw
            case rel => exact ⟨k + 1, _, _, _, M, by have := HLT.out; omega, by go_num, rfl, Lib.hid ⟨HF.out.1, by rw [HNx.out, HR.out.2.1]; simp, HF.out.2⟩⟩
            case measure => have := HLT.out; simp [intOf]; omega
    · have hkl : ¬ (k : Int) < (n : Int) := by omega
      obtain rfl : k = n := by omega
      have HF : Hid (RowS wr w.heap.size (.slice a7 n7 c7) M ∧ M.map Sm.s = activeL l now ∧ Below w.heap.size w wr) := Lib.hid ⟨HR.out.1, by have := HR.out.2.1; rw [HN.out, List.take_length] at this; exact this, HR.out.2.2⟩
      clear HR hk
      go_wp2
      go_ret
      exact ⟨a7, n7, c7, M, rfl, HF.out.1, HF.out.2.1, HF.out.2.2⟩

end Go.Proofs.YtcngifkoopcmeaaGreatDoor
