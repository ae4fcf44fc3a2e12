/-
  Whether two lists of matchers, and two silences, are one, as package silence tells it. SilenceBack, walked: it answers true at any silence, at an entry that is not too great, and at any time, and turns nothing that was there.
-/
import Derived.Test.YtfllfmdopfeecabGreatDoorSA
import Derived.Laws.StructEq
import Derived.Test.YtfllfmdopfeecabGreatDoorSEnds
import Derived.Test.YtfllfmdopfeecabGreatDoorSOpen
namespace Go.Proofs.YtfllfmdopfeecabGreatDoor
open Go Go.RowKit

def eqMt (x y : Mt) : Bool := x.1.toList == y.1.toList && ((x.2.1 : Int) == (y.2.1 : Int)) && x.2.2.toList == y.2.2.toList
theorem eqMt_iff (x y : Mt) : eqMt x y = true ↔ x = y := by
  unfold eqMt
  rw [Bool.and_eq_true, Bool.and_eq_true, beq_iff_eq, beq_iff_eq, beq_iff_eq, ByteArray.toList_eq, ByteArray.toList_eq, ByteArray.toList_eq, ByteArray.toList_eq]
  constructor
  · rintro ⟨⟨h1, h2⟩, h3⟩
    exact Prod.ext (Go.WideShapes.bytes_inj h1) (Prod.ext (by omega) (Go.WideShapes.bytes_inj h3))
  · rintro rfl
    exact ⟨⟨rfl, rfl⟩, rfl⟩
theorem eqMt_run (x y : Mt) : ∀ w : World, (binOp .neq 61 (.agg #[.string x.1, .int .u8 (x.2.1 : Int), .string x.2.2]) (.agg #[.string y.1, .int .u8 (y.2.1 : Int), .string y.2.2])).run Tryz.prog w = .ok (.bool (!eqMt x y)) w := fun w => by
  have u9 := Tryz.underlying9
  have a9 := Tryz.isAgg9
  have z9 := Tryz.sizeOf9
  have u8 := Tryz.underlying59
  have a8 := Tryz.isAgg59
  have z8 := Tryz.sizeOf59
  have hS : Tryz.prog.underlying 61 = some (.struct (Tryz.prog.fieldsOf 61)) := by kernel_rfl
  have hp : Tryz.prog.stoodInHeld 61 = false := by kernel_rfl
  simp only [eqMt]
  rw [run_neq_struct, show (10000 : Nat) = 9999 + 1 from rfl, run_equalIn_agg w 9999 61 _ _ hS hp]
  simp only [Program.fieldsOf, Tryz.underlying61]
  go_simp
  by_cases h1 : x.1.toList = y.1.toList <;> by_cases h2 : (x.2.1 : Int) = (y.2.1 : Int) <;> by_cases h3 : x.2.2.toList = y.2.2.toList <;> simp [h1, h2, h3]

set_option maxRecDepth 20000 in
set_option maxHeartbeats 4000000 in
theorem eqMts_any (a : Option Addr) (c : Nat) (ms : List Mt) (b : Option Addr) (d : Nat) (ns : List Mt) (w : World) (h1 : MtsAt w a ms) (h2 : MtsAt w b ns) (hn : ms.length ≤ 1000) (hm : ns.length ≤ 1000) :
    Calls Tryz.prog 33 #[.slice a ms.length c, .slice b ns.length d] w fun e w' => Tells (ms = ns) e ∧ Below w.heap.size w w' := by
  have H1 := Lib.hid h1
  have H2 := Lib.hid h2
  clear h1 h2
  by_cases hl : ms.length = ns.length
  case neg =>
    have hl' : ((ms.length : Int) != (ns.length : Int)) = true := by simp; omega
    have HT : Hid (Tells (ms = ns) (.returned (.bool false))) := Lib.hid ⟨false, rfl, ⟨fun h => (by cases h), fun h => absurd (congrArg List.length h) hl⟩⟩
    go_enter Tryz.func33, Tryz.ntmps33
    go_wp2
    go_ret
    exact ⟨HT.out, Below.refl _ _⟩
  case pos =>
  have HL := Lib.hid hl
  have hl' : ((ms.length : Int) != (ns.length : Int)) = false := by simp; omega
  obtain ⟨n, hnn⟩ : ∃ n, n = ns.length := ⟨_, rfl⟩
  have HNn := Lib.hid hnn
  rw [← hnn] at hl' hl ⊢
  rw [hl] at hl' ⊢
  have HLn := Lib.hid hl
  have hnb : n ≤ 1000 := by omega
  clear hnn hl
  have HP : Hid (∀ P : Prop, P = (ms = ns) → True) := Lib.hid fun _ _ => trivial
  generalize hPP : (ms = ns) = P at *
  have HPP := Lib.hid hPP
  clear hPP HP
  go_enter Tryz.func33, Tryz.ntmps33
  go_wp2
  go_loopg [5, 13] n (fun gg _ s13 wr => ∃ k : Nat, k ≤ n ∧ n - k ≤ gg ∧ s13 = .int .i64 k ∧ Hid (Below w.heap.size w wr) ∧ Hid (∀ j (_ : j < k) (hj : j < ms.length) (hj2 : j < ns.length), ms[j] = ns[j]))
  case atStart => exact ⟨0, Nat.zero_le _, by omega, rfl, Lib.hid (Below.refl _ _), Lib.hid fun j hj => absurd hj (Nat.not_lt_zero _)⟩
  case round =>
    obtain ⟨k, hk, hg, rfl, HB, HA⟩ := hrel
    by_cases hlt : k < n
    · have hkl : (k : Int) < (n : Int) := by omega
      have hk1 : k < ms.length := by have := HLn.out; omega
      have hk2 : k < ns.length := by have := HNn.out; omega
      obtain ⟨b1, o1, rfl, hb1, hcx⟩ := H1.out (by omega)
      obtain ⟨b2, o2, rfl, hb2, hcy⟩ := H2.out (by omega)
      have hx := hcx k hk1
      have hy := hcy k hk2
      have e0 : wr.cell? ⟨b1, o1 + k * 3, none⟩ = some (.string ms[k].1) := (HB.out.cell (p := ⟨b1, o1 + k * 3, none⟩) hb1).trans (hx.1)
      have f0 : wr.cell? ⟨b2, o2 + k * 3, none⟩ = some (.string ns[k].1) := (HB.out.cell (p := ⟨b2, o2 + k * 3, none⟩) hb2).trans (hy.1)
      have e1 : wr.cell? ⟨b1, o1 + k * 3 + 1, none⟩ = some (.int .u8 (ms[k].2.1 : Int)) := (HB.out.cell (p := ⟨b1, o1 + k * 3 + 1, none⟩) hb1).trans (hx.2.1)
      have f1 : wr.cell? ⟨b2, o2 + k * 3 + 1, none⟩ = some (.int .u8 (ns[k].2.1 : Int)) := (HB.out.cell (p := ⟨b2, o2 + k * 3 + 1, none⟩) hb2).trans (hy.2.1)
      have e2 : wr.cell? ⟨b1, o1 + k * 3 + 2, none⟩ = some (.string ms[k].2.2) := (HB.out.cell (p := ⟨b1, o1 + k * 3 + 2, none⟩) hb1).trans (hx.2.2)
      have f2 : wr.cell? ⟨b2, o2 + k * 3 + 2, none⟩ = some (.string ns[k].2.2) := (HB.out.cell (p := ⟨b2, o2 + k * 3 + 2, none⟩) hb2).trans (hy.2.2)
      have HN1 : Hid (ms[k] ≠ ns[k] → ¬ P) := Lib.hid fun h hp => by
        rw [← HPP.out] at hp
        subst hp
        exact h rfl
      have HA2 : Hid (ms[k] = ns[k] → ∀ j (_ : j < k + 1) (hj : j < ms.length) (hj2 : j < ns.length), ms[j] = ns[j]) := Lib.hid fun h0 j hj h1 h2 => by
        by_cases e : j = k
        · subst e; exact h0
        · exact HA.out j (by omega) h1 h2
      have HEq := Lib.hid (eqMt_iff ms[k] ns[k])
      have hne := eqMt_run ms[k] ns[k]
      clear hcx hcy hx hy HA
      generalize ms[k] = x at *
      generalize ns[k] = y at *
      clear hk1 hk2
      go_wp2_with fail
      refine wp_region_any (by kernel_rfl) ?_
      change wpAny _ _ _ _ _ _ _ (World.drew _)
      have hS : (fun w' : World => w'.cell? ⟨b1, o1 + k * 3, none⟩ = some (.string x.1) ∧ w'.cell? ⟨b1, o1 + k * 3 + 1, none⟩ = some (.int .u8 (x.2.1 : Int)) ∧ w'.cell? ⟨b1, o1 + k * 3 + 2, none⟩ = some (.string x.2.2) ∧ w'.cell? ⟨b2, o2 + k * 3, none⟩ = some (.string y.1) ∧ w'.cell? ⟨b2, o2 + k * 3 + 1, none⟩ = some (.int .u8 (y.2.1 : Int)) ∧ w'.cell? ⟨b2, o2 + k * 3 + 2, none⟩ = some (.string y.2.2)) wr.drew := ⟨e0, e1, e2, f0, f1, f2⟩
      refine wpAny_of_held (S := fun w' => w'.cell? ⟨b1, o1 + k * 3, none⟩ = some (.string x.1) ∧ w'.cell? ⟨b1, o1 + k * 3 + 1, none⟩ = some (.int .u8 (x.2.1 : Int)) ∧ w'.cell? ⟨b1, o1 + k * 3 + 2, none⟩ = some (.string x.2.2) ∧ w'.cell? ⟨b2, o2 + k * 3, none⟩ = some (.string y.1) ∧ w'.cell? ⟨b2, o2 + k * 3 + 1, none⟩ = some (.int .u8 (y.2.1 : Int)) ∧ w'.cell? ⟨b2, o2 + k * 3 + 2, none⟩ = some (.string y.2.2)) _ _ _ _ ?_
      refine wpAnyH_takeE (i := 0) (some 16) (v := ?_) rfl rfl (by as_aux_lemma => kernel_rfl) (by as_aux_lemma => kernel_rfl) (by as_aux_lemma => kernel_rfl) (fun _ _ _ h => h) (Or.inl ⟨by kernel_rfl, ?_⟩) hS ?_
      rotate_left
      · intro w hSw; obtain ⟨g0, g1, g2, g3, g4, g5⟩ := hSw; go_simp
        first | done | with_reducible rfl
      refine wpAnyH_takeE (i := 1) (some 17) (v := ?_) rfl rfl (by as_aux_lemma => kernel_rfl) (by as_aux_lemma => kernel_rfl) (by as_aux_lemma => kernel_rfl) (fun _ _ _ h => h) (Or.inl ⟨by kernel_rfl, ?_⟩) hS ?_
      rotate_left
      · intro w hSw; obtain ⟨g0, g1, g2, g3, g4, g5⟩ := hSw; go_simp
        first | done | with_reducible rfl
      refine wpAnyH_takeE (i := 2) (some 18) (v := ?_) rfl rfl (by as_aux_lemma => kernel_rfl) (by as_aux_lemma => kernel_rfl) (by as_aux_lemma => kernel_rfl) (fun _ _ _ h => h) (Or.inl ⟨by kernel_rfl, ?_⟩) hS ?_
      rotate_left
      · intro w hSw; obtain ⟨g0, g1, g2, g3, g4, g5⟩ := hSw; go_simp
        first | done | with_reducible rfl
      refine wpAnyH_takeE (i := 3) (some 19) (v := ?_) rfl rfl (by as_aux_lemma => kernel_rfl) (by as_aux_lemma => kernel_rfl) (by as_aux_lemma => kernel_rfl) (fun _ _ _ h => h) (Or.inl ⟨by kernel_rfl, ?_⟩) hS ?_
      rotate_left
      · intro w hSw; obtain ⟨g0, g1, g2, g3, g4, g5⟩ := hSw; go_simp
        first | done | with_reducible rfl
      refine wpAnyH_takeE (i := 4) (some 20) (v := ?_) rfl rfl (by as_aux_lemma => kernel_rfl) (by as_aux_lemma => kernel_rfl) (by as_aux_lemma => kernel_rfl) (fun _ _ _ h => h) (Or.inl ⟨by kernel_rfl, ?_⟩) hS ?_
      rotate_left
      · intro w hSw; obtain ⟨g0, g1, g2, g3, g4, g5⟩ := hSw; go_simp
        first | done | with_reducible rfl
      refine wpAnyH_takeE (i := 5) (some 21) (v := ?_) rfl rfl (by as_aux_lemma => kernel_rfl) (by as_aux_lemma => kernel_rfl) (by as_aux_lemma => kernel_rfl) (fun _ _ _ h => h) (Or.inl ⟨by kernel_rfl, ?_⟩) hS ?_
      rotate_left
      · intro w hSw; obtain ⟨g0, g1, g2, g3, g4, g5⟩ := hSw; go_simp
        first | done | with_reducible rfl
      refine wpAnyH_takeE (i := 6) (some 22) (v := ?_) rfl rfl (by as_aux_lemma => kernel_rfl) (by as_aux_lemma => kernel_rfl) (by as_aux_lemma => kernel_rfl) (fun _ _ _ h => h) (Or.inl ⟨by kernel_rfl, ?_⟩) hS ?_
      rotate_left
      · intro w hSw; obtain ⟨g0, g1, g2, g3, g4, g5⟩ := hSw; go_simp
        first | done | with_reducible rfl
      refine wpAnyH_takeE (i := 7) (some 23) (v := ?_) rfl rfl (by as_aux_lemma => kernel_rfl) (by as_aux_lemma => kernel_rfl) (by as_aux_lemma => kernel_rfl) (fun _ _ _ h => h) (Or.inl ⟨by kernel_rfl, ?_⟩) hS ?_
      rotate_left
      · intro w hSw; obtain ⟨g0, g1, g2, g3, g4, g5⟩ := hSw; go_simp
        first | done | with_reducible rfl
      refine wpAnyH_takeE (i := 8) (some 24) (v := ?_) rfl rfl (by as_aux_lemma => kernel_rfl) (by as_aux_lemma => kernel_rfl) (by as_aux_lemma => kernel_rfl) (fun _ _ _ h => h) (Or.inl ⟨by kernel_rfl, ?_⟩) hS ?_
      rotate_left
      · intro w hSw; obtain ⟨g0, g1, g2, g3, g4, g5⟩ := hSw; go_simp
        first | done | with_reducible rfl
      refine wpAnyH_done (by kernel_rfl) ?_ _
      clear hS e0 f0 e1 f1 e2 f2 hne
      go_simp
      cases hv : eqMt x y with
      | true =>
        have HA3 := Lib.hid (HA2.out (HEq.out.1 hv))
        clear HA2 HN1 HEq
        go_wp2
        go_roundg (n - (k + 1))
        case measure => omega
        case rel => exact ⟨k + 1, by omega, by omega, by go_num, Lib.hid HB.out.drew, HA3⟩
      | false =>
        have HT : Hid (Tells P (.returned (.bool false))) := Lib.hid ⟨false, rfl, ⟨fun h => (by cases h), fun h => absurd h (HN1.out fun e => by rw [HEq.out.2 e] at hv; cases hv)⟩⟩
        clear HA2 HN1 HEq
        go_wp2
        go_ret
        exact ⟨HT.out, HB.out.drew⟩
    · obtain rfl : k = n := by omega
      have HT : Hid (Tells P (.returned (.bool true))) := Lib.hid ⟨true, rfl, ⟨fun _ => by
        rw [← HPP.out]
        exact List.ext_getElem HL.out fun i h1 h2 => HA.out i (by have := HLn.out; omega) h1 h2, fun _ => rfl⟩⟩
      clear HA
      go_wp2
      go_ret
      exact ⟨HT.out, HB.out⟩

set_option maxRecDepth 100000 in
set_option maxHeartbeats 4000000 in
theorem sSame_yes (s : Sil) (a : Option Addr) (c : Nat) (b : Option Addr) (d : Nat) (w : World) (h1 : MtsAt w a s.ms) (h2 : MtsAt w b s.ms) (hn : s.ms.length ≤ 1000) (n : Nat) (hnn : n = s.ms.length) :
    Calls Tryz.prog 14 #[.agg #[.string s.id, .slice a n c, .int .i64 s.st, .int .i64 s.en], .agg #[.string s.id, .slice b n d, .int .i64 s.st, .int .i64 s.en]] w fun e w' => e = .returned (.bool true) ∧ Below w.heap.size w w' := by
  have d1 := (Below.refl w.heap.size w).alloc (Nat.le_refl _) (.cells #[.string s.id, .slice a n c, .int .i64 s.st, .int .i64 s.en] 27)
  have d2 := (Below.refl (w.alloc (.cells #[.string s.id, .slice a n c, .int .i64 s.st, .int .i64 s.en] 27)).heap.size (w.alloc (.cells #[.string s.id, .slice a n c, .int .i64 s.st, .int .i64 s.en] 27))).alloc (Nat.le_refl _) (.cells #[.string s.id, .slice b n d, .int .i64 s.st, .int .i64 s.en] 27)
  have D2 := d1.trans (d2.mono d1.size)
  have b1 := (SBlk.new w s.id a n c s.st s.en).on d2
  have b2 := SBlk.new (w.alloc (.cells #[.string s.id, .slice a n c, .int .i64 s.st, .int .i64 s.en] 27)) s.id b n d s.st s.en
  rw [World.size_alloc] at b2
  have hE := eqMts_any a c s.ms b d s.ms _ (h1.below D2 (Nat.le_refl _)) (h2.below D2 (Nat.le_refl _)) hn hn
  rw [← hnn] at hE
  have hE' := hE.mono (R' := fun e w' => e = .returned (.bool true) ∧ Below ((w.alloc (.cells #[.string s.id, .slice a n c, .int .i64 s.st, .int .i64 s.en] 27)).alloc (.cells #[.string s.id, .slice b n d, .int .i64 s.st, .int .i64 s.en] 27)).heap.size ((w.alloc (.cells #[.string s.id, .slice a n c, .int .i64 s.st, .int .i64 s.en] 27)).alloc (.cells #[.string s.id, .slice b n d, .int .i64 s.st, .int .i64 s.en] 27)) w') (fun e w' ⟨⟨q, he, hq⟩, hb⟩ => ⟨by rw [he, hq.2 rfl], hb⟩)
  have HE := Lib.hid hE'
  have HB := Lib.hid (And.intro b1 (And.intro b2 D2))
  clear d1 d2 D2 b1 b2 hE hE' h1 h2 hn hnn
  obtain ⟨id, ms, st, en⟩ := s
  dsimp only at *
  go_enter Tryz.func14, Tryz.ntmps14
  go_wp2_with (go_at_call 33; refine HE.out.mono ?_; rintro e w3 ⟨rfl, q3⟩; replace q3 := Lib.hid q3; refine Hid.out ?_)
  refine Lib.hid ?_
  obtain ⟨b1, b2, D2⟩ := HB.out
  have c1 := b1.on q3.out
  have c2 := b2.on q3.out
  have k2 := c1.c2
  have k3 := c1.c3
  have j2 := c2.c2
  have j3 := c2.c3
  have HD := Lib.hid (D2.trans (q3.out.mono D2.size))
  clear b1 b2 D2 c1 c2 q3 HB HE
  go_wp2
  go_ret
  exact ⟨rfl, HD.out⟩


theorem small_ent5 {H : Type} {ds : List (DataW H)} (h : Rows.uptoBulkAll ds ≤ 1048576) {x : Ent} (hm : datE x ∈ ds) : x.v.size ≤ 1048576 := by
  have h1 := bulk_mem hm
  simp only [datE, Rows.uptoBulk, Rows.uptoBulkAll] at h1
  have h2 : x.v.data.toList.length = x.v.size := rfl
  omega
/-- The entry of a silence may be. -/
theorem check_ent {s : Sil} {t o : Int} (h : entryE s t = 0) : checkEn (entS s t o) = 0 := by
  obtain ⟨h1, h2, h3⟩ := entryE_zero h
  obtain ⟨hn, -, -, -, h5, h6, h7⟩ := silE_zero h1
  have hl := lay_short h1
  have hk : (keyS s.id).size = s.id.size + 1 := by
    show (keyS s.id).data.size = _
    have : (keyS s.id).data.toList.length = s.id.data.toList.length + 1 := by simp [keyS]
    simpa using this
  have hv : (⟨(layS s.ms s.st s.en).toArray⟩ : ByteArray).size = (layS s.ms s.st s.en).length := by
    show (layS s.ms s.st s.en).toArray.size = _
    simp
  have h16 := hn.1.2
  unfold checkEn entS
  dsimp only
  rw [hk, hv, if_neg (by omega), if_neg (by omega)]

set_option maxRecDepth 100000 in
set_option maxHeartbeats 8000000 in
theorem back_walkS (x : Sm) (r : Ent) (time : Int) (w : World) (htab : TabW w) (hv : VarsOk w.heap.size w) (hm : MtsAt w x.ad x.s.ms) (hml : x.s.ms.length ≤ 9223372036854775807) (hrs : r.v.size ≤ 1048576) :
    Calls Tryz.prog 5 #[.agg #[.string x.s.id, .slice x.ad x.s.ms.length x.cp, .int .i64 x.s.st, .int .i64 x.s.en], .agg #[.string r.k, .int .i64 r.t, .int .u16 r.o, .string r.v, .int .i64 r.u], .int .i64 time] w fun e w' => e = .returned (.bool true) ∧ Below w.heap.size w w' := by
  obtain ⟨n, hn⟩ : ∃ n, n = x.s.ms.length := ⟨_, rfl⟩
  have d1 := (Below.refl w.heap.size w).alloc (Nat.le_refl _) (.cells #[.string x.s.id, .slice x.ad x.s.ms.length x.cp, .int .i64 x.s.st, .int .i64 x.s.en] 27)
  have d2 := (Below.refl (w.alloc (.cells #[.string x.s.id, .slice x.ad x.s.ms.length x.cp, .int .i64 x.s.st, .int .i64 x.s.en] 27)).heap.size (w.alloc (.cells #[.string x.s.id, .slice x.ad x.s.ms.length x.cp, .int .i64 x.s.st, .int .i64 x.s.en] 27))).alloc (Nat.le_refl _) (.cells #[.string r.k, .int .i64 r.t, .int .u16 r.o, .string r.v, .int .i64 r.u] 24)
  have D2 := d1.trans (d2.mono d1.size)
  have b2 := (SBlk.new w x.s.id x.ad x.s.ms.length x.cp x.s.st x.s.en).on d2
  have x2 := EBlk.new (w.alloc (.cells #[.string x.s.id, .slice x.ad x.s.ms.length x.cp, .int .i64 x.s.st, .int .i64 x.s.en] 27)) r
  rw [World.size_alloc] at x2
  have HX := Lib.hid (And.intro htab (And.intro hv (And.intro hm hml)))
  have HA : Hid (∀ W, Below w.heap.size w W → Calls Tryz.prog 11 #[] W fun e w' => e = .returned (.bool true) ∧ Below W.heap.size W w') := Lib.hid (fun W hW => slawake_any w.heap.size W hW.size (HX.out.2.1.on hW) (htab.on hW htab.lt))
  rw [← hn] at b2 x2 D2 ⊢
  have HN := Lib.hid hn
  have HS2 := Lib.hid (And.intro b2 (And.intro x2 D2))
  cases ho : ofS r with
  | none =>
    have HOf := Lib.hid (sOf_no r hrs w.heap.size _ D2.size (hv.on D2) (htab.on D2 htab.lt) (ofS_none ho))
    clear d1 d2 D2 b2 x2 htab hv hm hml hn ho
    obtain ⟨⟨id, ms, st, en⟩, ad, cp⟩ := x
    obtain ⟨kr, tr, or, vr, ur⟩ := r
    dsimp only at *
    go_enter Tryz.func5, Tryz.ntmps5
    go_wp2_with (go_at_call 8; refine HOf.out.mono ?_; rintro e w3 ⟨rfl, q3⟩; replace q3 := Lib.hid q3; refine Hid.out ?_)
    refine Lib.hid ?_
    obtain ⟨b2, x2, D2⟩ := HS2.out
    have dA := (Below.refl w3.heap.size w3).alloc (Nat.le_refl _) (.cells #[.string ⟨#[]⟩, .slice none 0 0, .int .i64 0, .int .i64 0] 27)
    have D3 := D2.trans (q3.out.mono D2.size)
    have HSA : Hid (SBlk (w3.alloc (.cells #[.string ⟨#[]⟩, .slice none 0 0, .int .i64 0, .int .i64 0] 27)) w.heap.size id ad n cp st en ∧ Below w.heap.size w (w3.alloc (.cells #[.string ⟨#[]⟩, .slice none 0 0, .int .i64 0, .int .i64 0] 27))) := Lib.hid ⟨(b2.on q3.out).on dA, D3.trans (dA.mono D3.size)⟩
    clear b2 x2 D2 dA D3 q3 HOf HS2
    obtain ⟨bA, DA⟩ := HSA.out
    have k0 := bA.c0
    have k1 := bA.c1
    have k2 := bA.c2
    have k3 := bA.c3
    have hmA := HX.out.2.2.1.below DA (Nat.le_refl _)
    have dB := (Below.refl (w3.alloc (.cells #[.string ⟨#[]⟩, .slice none 0 0, .int .i64 0, .int .i64 0] 27)).heap.size (w3.alloc (.cells #[.string ⟨#[]⟩, .slice none 0 0, .int .i64 0, .int .i64 0] 27))).alloc (Nat.le_refl _) (.cells #[.string id, .slice ad n cp, .int .i64 st, .int .i64 en] 27)
    have DB := DA.trans (dB.mono DA.size)
    have hso := sils_one (w3.alloc (.cells #[.string ⟨#[]⟩, .slice none 0 0, .int .i64 0, .int .i64 0] 27)) ⟨⟨id, ms, st, en⟩, ad, cp⟩ hmA
    dsimp only at hso
    rw [World.size_alloc] at hso
    rw [← HN.out] at hso
    have hL := yLight_any (some ⟨w3.heap.size + 1, 0, none⟩) 1 [⟨⟨id, ms, st, en⟩, ad, cp⟩] _ hso 1 rfl (by omega)
    obtain ⟨q, hq⟩ : ∃ q, q = decide (LightS [⟨⟨id, ms, st, en⟩, ad, cp⟩]) := ⟨_, rfl⟩
    rw [← hq] at hL
    have HQ := Lib.hid hq
    have HL := Lib.hid hL
    have HSB := Lib.hid (And.intro (bA.on dB) DB)
    clear bA DA hmA dB DB hso hL hq HSA
    cases q with
    | false =>
      go_wp2_with (go_at_call 12; refine HL.out.mono ?_; rintro e wB ⟨rfl, hwB⟩; replace hwB := Lib.hid hwB; refine Hid.out ?_)
      refine Lib.hid ?_
      have D2 := HSB.out.2
      rw [← hwB.out] at D2
      have HC9 := Lib.hid (HA.out wB D2)
      have HD8 := Lib.hid D2
      clear D2 HL HSB hwB k0 k1 k2 k3
      go_wp2_with (go_at_call 11; refine HC9.out.mono ?_; rintro e w9 ⟨rfl, q9⟩; replace q9 := Lib.hid q9; refine Hid.out ?_)
      refine Lib.hid ?_
      have HF := Lib.hid (HD8.out.trans (q9.out.mono HD8.out.size))
      clear q9 HC9 HD8
      go_wp2
      go_ret
      exact ⟨rfl, HF.out⟩
    | true =>
      go_wp2_with (go_at_call 12; refine HL.out.mono ?_; rintro e wB ⟨rfl, hwB⟩; replace hwB := Lib.hid hwB; refine Hid.out ?_)
      refine Lib.hid ?_
      obtain ⟨bB, DB⟩ := HSB.out
      rw [← hwB.out] at bB DB
      clear k0 k1 k2 k3 HL HSB hwB
      have k0 := bB.c0
      have k1 := bB.c1
      have k2 := bB.c2
      have k3 := bB.c3
      have hmB := HX.out.2.2.1.below DB (Nat.le_refl _)
      by_cases hE : entryE ⟨id, ms, st, en⟩ time = 0
      · have hEn := sEntry_ok ⟨id, ms, st, en⟩ ad cp time 7 wB (HX.out.1.on DB HX.out.1.lt) hmB hE w.heap.size DB.size (HX.out.2.1.on DB) n HN.out
        dsimp only at hEn
        obtain ⟨KS, hKS⟩ : ∃ KS, KS = keyS id := ⟨_, rfl⟩
        obtain ⟨LV, hLV⟩ : ∃ LV : ByteArray, LV = ⟨(layS ms st en).toArray⟩ := ⟨_, rfl⟩
        obtain ⟨MX, hMX⟩ : ∃ MX, MX = max en time := ⟨_, rfl⟩
        rw [← hKS, ← hLV, ← hMX] at hEn
        have hIs : IsE ⟨id, ms, st, en⟩ ⟨KS, time, 7, LV, MX⟩ := ⟨hE, by rw [hKS, hLV, hMX]; rfl⟩
        have hsz := lay_short (entryE_zero hE).1
        have hck := check_ent (o := 7) hE
        have HI : Hid (IsE ⟨id, ms, st, en⟩ ⟨KS, time, 7, LV, MX⟩ ∧ LV.size ≤ 1048576 ∧ checkEn ⟨KS, time, 7, LV, MX⟩ = 0 ∧ ms.length ≤ 8) := Lib.hid ⟨hIs, by
          rw [hLV]
          show (layS ms st en).toArray.size ≤ _
          simp only [List.size_toArray]
          dsimp only at hsz
          omega, by
          rw [hKS, hLV, hMX]
          exact hck, (silE_zero (entryE_zero hE).1).2.1⟩
        have HEn := Lib.hid hEn
        have HS3 := Lib.hid (And.intro bB DB)
        clear hEn hIs hsz hck hKS hLV hMX bB DB hmB hE
        go_wp2_with (go_at_call 20; refine HEn.out.mono ?_; rintro e wC ⟨rfl, qC⟩; replace qC := Lib.hid qC; refine Hid.out ?_)
        refine Lib.hid ?_
        obtain ⟨bB, DB⟩ := HS3.out
        have bC := bB.on qC.out
        have DC := DB.trans (qC.out.mono DB.size)
        have dD := (Below.refl wC.heap.size wC).alloc (Nat.le_refl _) (.cells #[.string KS, .int .i64 time, .int .u16 7, .string LV, .int .i64 MX] 24)
        have DD := DC.trans (dD.mono DC.size)
        have xD := EBlk.new wC ⟨KS, time, 7, LV, MX⟩
        have bD := bC.on dD
        have HOf := Lib.hid (sOf_yes ⟨KS, time, 7, LV, MX⟩ HI.out.2.1 w.heap.size (wC.alloc (.cells #[.string KS, .int .i64 time, .int .u16 7, .string LV, .int .i64 MX] 24)) DD.size (HX.out.2.1.on DD) (HX.out.1.on DD HX.out.1.lt) ⟨id, ms, st, en⟩ HI.out.1)
        have hOf := HOf.out
        dsimp only at hOf
        rw [← HN.out] at hOf
        have HOf := Lib.hid hOf
        have HSD := Lib.hid (And.intro bD (And.intro xD DD))
        clear hOf bB DB bC DC dD DD xD bD qC HEn HS3 k0 k1 k2 k3
        go_wp2_with (go_at_call 8; refine HOf.out.mono ?_; rintro e wE ⟨aE, cE, rfl, hmE, -, qE⟩; replace hmE := Lib.hid hmE; replace qE := Lib.hid qE; refine Hid.out ?_)
        refine Lib.hid ?_
        obtain ⟨bD, xD, DD⟩ := HSD.out
        have bE := bD.on qE.out
        have xE := xD.on qE.out
        have DE := DD.trans (qE.out.mono DD.size)
        have dF := (Below.refl wE.heap.size wE).alloc (Nat.le_refl _) (.cells #[.string id, .slice aE n cE, .int .i64 st, .int .i64 en] 27)
        have DF := DE.trans (dF.mono DE.size)
        have bF := bE.on dF
        have xF := xE.on dF
        have k0 := bF.c0
        have k1 := bF.c1
        have k2 := bF.c2
        have k3 := bF.c3
        have hSm := sSame_yes ⟨id, ms, st, en⟩ aE cE ad cp (wE.alloc (.cells #[.string id, .slice aE n cE, .int .i64 st, .int .i64 en] 27)) (hmE.out.below dF (Nat.le_refl _)) (HX.out.2.2.1.below DF (Nat.le_refl _)) (by have := HI.out.2.2.2; dsimp only; omega) n HN.out
        dsimp only at hSm
        have HSm := Lib.hid hSm
        have HSF := Lib.hid (And.intro xF DF)
        clear hSm bD xD DD bE xE DE dF DF bF xF hmE qE HOf HSD
        go_wp2_with (go_at_call 14; refine HSm.out.mono ?_; rintro e wG ⟨rfl, qG⟩; replace qG := Lib.hid qG; refine Hid.out ?_)
        refine Lib.hid ?_
        obtain ⟨xF, DF⟩ := HSF.out
        have xG := xF.on qG.out
        have DG := DF.trans (qG.out.mono DF.size)
        clear k0 k1 k2 k3
        have y0 := xG.c0
        have y1 := xG.c1
        have y2 := xG.c2
        have y3 := xG.c3
        have y4 := xG.c4
        dsimp only at y0 y1 y2 y3 y4
        have hCk := eCheck_any ⟨KS, time, 7, LV, MX⟩ wG
        rw [HI.out.2.2.1] at hCk
        dsimp only at hCk
        have HCk := Lib.hid hCk
        have HDG := Lib.hid DG
        clear hCk xF DF xG DG qG HSm HSF
        go_wp2_with (go_at_call 21; refine HCk.out.mono ?_; rintro e wI ⟨rfl, qI⟩; replace qI := Lib.hid qI; refine Hid.out ?_)
        refine Lib.hid ?_
        have DI := HDG.out.trans (qI.out.mono HDG.out.size)
        have HC9 := Lib.hid (HA.out wI DI)
        have HD8 := Lib.hid DI
        clear DI qI HCk HDG y0 y1 y2 y3 y4
        go_wp2_with (go_at_call 11; refine HC9.out.mono ?_; rintro e w9 ⟨rfl, q9⟩; replace q9 := Lib.hid q9; refine Hid.out ?_)
        refine Lib.hid ?_
        have HF := Lib.hid (HD8.out.trans (q9.out.mono HD8.out.size))
        clear q9 HC9 HD8
        go_wp2
        go_ret
        exact ⟨rfl, HF.out⟩
      · have hEn := sEntry_err ⟨id, ms, st, en⟩ ad cp time 7 wB (HX.out.1.on DB HX.out.1.lt) hmB HX.out.2.2.2 hE n HN.out
        dsimp only at hEn
        have hb : ((entryE ⟨id, ms, st, en⟩ time : Int) != 0) = true := by simpa using hE
        generalize entryE ⟨id, ms, st, en⟩ time = E at *
        have HEn := Lib.hid hEn
        have HS3 := Lib.hid DB
        have heq := fun u => run_eqE zeroE zeroE u
        rw [eqEn_refl] at heq
        dsimp only [zeroE] at heq
        clear hEn hE bB DB hmB
        go_wp2_with (go_at_call 20; refine HEn.out.mono ?_; rintro e wC ⟨rfl, qC⟩; replace qC := Lib.hid qC; refine Hid.out ?_)
        refine Lib.hid ?_
        have dD := (Below.refl wC.heap.size wC).alloc (Nat.le_refl _) (.cells #[.string ⟨#[]⟩, .int .i64 0, .int .u16 0, .string ⟨#[]⟩, .int .i64 0] 24)
        have DC := HS3.out.trans (qC.out.mono HS3.out.size)
        have DD := DC.trans (dD.mono DC.size)
        have HC9 := Lib.hid (HA.out (wC.alloc (.cells #[.string ⟨#[]⟩, .int .i64 0, .int .u16 0, .string ⟨#[]⟩, .int .i64 0] 24)) DD)
        have HD8 := Lib.hid DD
        clear DD DC dD qC HEn HS3 k0 k1 k2 k3
        go_wp2_with (go_at_call 11; refine HC9.out.mono ?_; rintro e w9 ⟨rfl, q9⟩; replace q9 := Lib.hid q9; refine Hid.out ?_)
        refine Lib.hid ?_
        have HF := Lib.hid (HD8.out.trans (q9.out.mono HD8.out.size))
        clear q9 HC9 HD8
        go_wp2
        go_ret
        exact ⟨rfl, HF.out⟩
  | some s' =>
    have hIs := ofS_some.1 ho
    have hOf := sOf_yes r hrs w.heap.size _ D2.size (hv.on D2) (htab.on D2 htab.lt) s' hIs
    obtain ⟨n', hn'⟩ : ∃ n', n' = s'.ms.length := ⟨_, rfl⟩
    rw [← hn'] at hOf
    have HOf := Lib.hid hOf
    have HI' := Lib.hid (And.intro hIs hn')
    clear d1 d2 D2 b2 x2 htab hv hm hml hn ho hOf hIs hn'
    obtain ⟨⟨id, ms, st, en⟩, ad, cp⟩ := x
    obtain ⟨kr, tr, or, vr, ur⟩ := r
    obtain ⟨id', ms', st', en'⟩ := s'
    dsimp only at *
    go_enter Tryz.func5, Tryz.ntmps5
    go_wp2_with (go_at_call 8; refine HOf.out.mono ?_; rintro e w3 ⟨a3, c3, rfl, hm3, -, q3⟩; replace hm3 := Lib.hid hm3; replace q3 := Lib.hid q3; refine Hid.out ?_)
    refine Lib.hid ?_
    obtain ⟨b2, x2, D2⟩ := HS2.out
    have D3 := D2.trans (q3.out.mono D2.size)
    have d4 := (Below.refl w3.heap.size w3).alloc (Nat.le_refl _) (.cells #[.string id', .slice a3 n' c3, .int .i64 st', .int .i64 en'] 27)
    have D4 := D3.trans (d4.mono D3.size)
    have b4 := (b2.on q3.out).on d4
    have x4 := (x2.on q3.out).on d4
    have k1 := x4.c1
    have k2 := x4.c2
    dsimp only at k1 k2
    have hEn := sEntry_ok ⟨id', ms', st', en'⟩ a3 c3 tr or (w3.alloc (.cells #[.string id', .slice a3 n' c3, .int .i64 st', .int .i64 en'] 27)) (HX.out.1.on D4 HX.out.1.lt) (hm3.out.below d4 (Nat.le_refl _)) HI'.out.1.1 w.heap.size D4.size (HX.out.2.1.on D4) n' HI'.out.2
    have e1 : keyS id' = kr := congrArg Ent.k HI'.out.1.2
    have e2 : (⟨(layS ms' st' en').toArray⟩ : ByteArray) = vr := congrArg Ent.v HI'.out.1.2
    have e3 : max en' tr = ur := congrArg Ent.u HI'.out.1.2
    dsimp only at hEn
    rw [e1, e2, e3] at hEn
    have HEn := Lib.hid hEn
    have HS4 := Lib.hid (And.intro b4 (And.intro x4 D4))
    clear b2 x2 D2 D3 d4 D4 b4 x4 hEn e1 e2 e3 q3 hm3 HOf HS2
    go_wp2_with (go_at_call 20; refine HEn.out.mono ?_; rintro e w4 ⟨rfl, q4⟩; replace q4 := Lib.hid q4; refine Hid.out ?_)
    refine Lib.hid ?_
    obtain ⟨b4, x4, D4⟩ := HS4.out
    have D5 := D4.trans (q4.out.mono D4.size)
    have dA := (Below.refl w4.heap.size w4).alloc (Nat.le_refl _) (.cells #[.string kr, .int .i64 tr, .int .u16 or, .string vr, .int .i64 ur] 24)
    have b5 := (b4.on q4.out).on dA
    have x5 := (x4.on q4.out).on dA
    clear k1 k2
    have y0 := x5.c0
    have y1 := x5.c1
    have y2 := x5.c2
    have y3 := x5.c3
    have y4 := x5.c4
    dsimp only at y0 y1 y2 y3 y4
    have hne := fun u => run_neE ⟨kr, tr, or, vr, ur⟩ ⟨kr, tr, or, vr, ur⟩ u
    rw [eqEn_refl] at hne
    dsimp only at hne
    have HSA : Hid (SBlk (w4.alloc (.cells #[.string kr, .int .i64 tr, .int .u16 or, .string vr, .int .i64 ur] 24)) w.heap.size id ad n cp st en ∧ Below w.heap.size w (w4.alloc (.cells #[.string kr, .int .i64 tr, .int .u16 or, .string vr, .int .i64 ur] 24))) := Lib.hid ⟨b5, D5.trans (dA.mono D5.size)⟩
    clear b4 x4 D4 D5 dA b5 x5 q4 HEn HS4
    obtain ⟨bA, DA⟩ := HSA.out
    have k0 := bA.c0
    have k1 := bA.c1
    have k2 := bA.c2
    have k3 := bA.c3
    have hmA := HX.out.2.2.1.below DA (Nat.le_refl _)
    have dB := (Below.refl (w4.alloc (.cells #[.string kr, .int .i64 tr, .int .u16 or, .string vr, .int .i64 ur] 24)).heap.size (w4.alloc (.cells #[.string kr, .int .i64 tr, .int .u16 or, .string vr, .int .i64 ur] 24))).alloc (Nat.le_refl _) (.cells #[.string id, .slice ad n cp, .int .i64 st, .int .i64 en] 27)
    have DB := DA.trans (dB.mono DA.size)
    have hso := sils_one (w4.alloc (.cells #[.string kr, .int .i64 tr, .int .u16 or, .string vr, .int .i64 ur] 24)) ⟨⟨id, ms, st, en⟩, ad, cp⟩ hmA
    dsimp only at hso
    rw [World.size_alloc] at hso
    rw [← HN.out] at hso
    have hL := yLight_any (some ⟨w4.heap.size + 1, 0, none⟩) 1 [⟨⟨id, ms, st, en⟩, ad, cp⟩] _ hso 1 rfl (by omega)
    obtain ⟨q, hq⟩ : ∃ q, q = decide (LightS [⟨⟨id, ms, st, en⟩, ad, cp⟩]) := ⟨_, rfl⟩
    rw [← hq] at hL
    have HQ := Lib.hid hq
    have HL := Lib.hid hL
    have HSB := Lib.hid (And.intro (bA.on dB) DB)
    clear bA DA hmA dB DB hso hL hq HSA
    cases q with
    | false =>
      go_wp2_with (go_at_call 12; refine HL.out.mono ?_; rintro e wB ⟨rfl, hwB⟩; replace hwB := Lib.hid hwB; refine Hid.out ?_)
      refine Lib.hid ?_
      have D2 := HSB.out.2
      rw [← hwB.out] at D2
      have HC9 := Lib.hid (HA.out wB D2)
      have HD8 := Lib.hid D2
      clear D2 HL HSB hwB k0 k1 k2 k3
      go_wp2_with (go_at_call 11; refine HC9.out.mono ?_; rintro e w9 ⟨rfl, q9⟩; replace q9 := Lib.hid q9; refine Hid.out ?_)
      refine Lib.hid ?_
      have HF := Lib.hid (HD8.out.trans (q9.out.mono HD8.out.size))
      clear q9 HC9 HD8
      go_wp2
      go_ret
      exact ⟨rfl, HF.out⟩
    | true =>
      go_wp2_with (go_at_call 12; refine HL.out.mono ?_; rintro e wB ⟨rfl, hwB⟩; replace hwB := Lib.hid hwB; refine Hid.out ?_)
      refine Lib.hid ?_
      obtain ⟨bB, DB⟩ := HSB.out
      rw [← hwB.out] at bB DB
      clear k0 k1 k2 k3 HL HSB hwB
      have k0 := bB.c0
      have k1 := bB.c1
      have k2 := bB.c2
      have k3 := bB.c3
      have hmB := HX.out.2.2.1.below DB (Nat.le_refl _)
      by_cases hE : entryE ⟨id, ms, st, en⟩ time = 0
      · have hEn := sEntry_ok ⟨id, ms, st, en⟩ ad cp time 7 wB (HX.out.1.on DB HX.out.1.lt) hmB hE w.heap.size DB.size (HX.out.2.1.on DB) n HN.out
        dsimp only at hEn
        obtain ⟨KS, hKS⟩ : ∃ KS, KS = keyS id := ⟨_, rfl⟩
        obtain ⟨LV, hLV⟩ : ∃ LV : ByteArray, LV = ⟨(layS ms st en).toArray⟩ := ⟨_, rfl⟩
        obtain ⟨MX, hMX⟩ : ∃ MX, MX = max en time := ⟨_, rfl⟩
        rw [← hKS, ← hLV, ← hMX] at hEn
        have hIs : IsE ⟨id, ms, st, en⟩ ⟨KS, time, 7, LV, MX⟩ := ⟨hE, by rw [hKS, hLV, hMX]; rfl⟩
        have hsz := lay_short (entryE_zero hE).1
        have hck := check_ent (o := 7) hE
        have HI : Hid (IsE ⟨id, ms, st, en⟩ ⟨KS, time, 7, LV, MX⟩ ∧ LV.size ≤ 1048576 ∧ checkEn ⟨KS, time, 7, LV, MX⟩ = 0 ∧ ms.length ≤ 8) := Lib.hid ⟨hIs, by
          rw [hLV]
          show (layS ms st en).toArray.size ≤ _
          simp only [List.size_toArray]
          dsimp only at hsz
          omega, by
          rw [hKS, hLV, hMX]
          exact hck, (silE_zero (entryE_zero hE).1).2.1⟩
        have HEn := Lib.hid hEn
        have HS3 := Lib.hid (And.intro bB DB)
        clear hEn hIs hsz hck hKS hLV hMX bB DB hmB hE
        go_wp2_with (go_at_call 20; refine HEn.out.mono ?_; rintro e wC ⟨rfl, qC⟩; replace qC := Lib.hid qC; refine Hid.out ?_)
        refine Lib.hid ?_
        obtain ⟨bB, DB⟩ := HS3.out
        have bC := bB.on qC.out
        have DC := DB.trans (qC.out.mono DB.size)
        have dD := (Below.refl wC.heap.size wC).alloc (Nat.le_refl _) (.cells #[.string KS, .int .i64 time, .int .u16 7, .string LV, .int .i64 MX] 24)
        have DD := DC.trans (dD.mono DC.size)
        have xD := EBlk.new wC ⟨KS, time, 7, LV, MX⟩
        have bD := bC.on dD
        have HOf := Lib.hid (sOf_yes ⟨KS, time, 7, LV, MX⟩ HI.out.2.1 w.heap.size (wC.alloc (.cells #[.string KS, .int .i64 time, .int .u16 7, .string LV, .int .i64 MX] 24)) DD.size (HX.out.2.1.on DD) (HX.out.1.on DD HX.out.1.lt) ⟨id, ms, st, en⟩ HI.out.1)
        have hOf := HOf.out
        dsimp only at hOf
        rw [← HN.out] at hOf
        have HOf := Lib.hid hOf
        have HSD := Lib.hid (And.intro bD (And.intro xD DD))
        clear hOf bB DB bC DC dD DD xD bD qC HEn HS3 k0 k1 k2 k3
        go_wp2_with (go_at_call 8; refine HOf.out.mono ?_; rintro e wE ⟨aE, cE, rfl, hmE, -, qE⟩; replace hmE := Lib.hid hmE; replace qE := Lib.hid qE; refine Hid.out ?_)
        refine Lib.hid ?_
        obtain ⟨bD, xD, DD⟩ := HSD.out
        have bE := bD.on qE.out
        have xE := xD.on qE.out
        have DE := DD.trans (qE.out.mono DD.size)
        have dF := (Below.refl wE.heap.size wE).alloc (Nat.le_refl _) (.cells #[.string id, .slice aE n cE, .int .i64 st, .int .i64 en] 27)
        have DF := DE.trans (dF.mono DE.size)
        have bF := bE.on dF
        have xF := xE.on dF
        have k0 := bF.c0
        have k1 := bF.c1
        have k2 := bF.c2
        have k3 := bF.c3
        have hSm := sSame_yes ⟨id, ms, st, en⟩ aE cE ad cp (wE.alloc (.cells #[.string id, .slice aE n cE, .int .i64 st, .int .i64 en] 27)) (hmE.out.below dF (Nat.le_refl _)) (HX.out.2.2.1.below DF (Nat.le_refl _)) (by have := HI.out.2.2.2; dsimp only; omega) n HN.out
        dsimp only at hSm
        have HSm := Lib.hid hSm
        have HSF := Lib.hid (And.intro xF DF)
        clear hSm bD xD DD bE xE DE dF DF bF xF hmE qE HOf HSD
        go_wp2_with (go_at_call 14; refine HSm.out.mono ?_; rintro e wG ⟨rfl, qG⟩; replace qG := Lib.hid qG; refine Hid.out ?_)
        refine Lib.hid ?_
        obtain ⟨xF, DF⟩ := HSF.out
        have xG := xF.on qG.out
        have DG := DF.trans (qG.out.mono DF.size)
        clear k0 k1 k2 k3
        have y0 := xG.c0
        have y1 := xG.c1
        have y2 := xG.c2
        have y3 := xG.c3
        have y4 := xG.c4
        dsimp only at y0 y1 y2 y3 y4
        have hCk := eCheck_any ⟨KS, time, 7, LV, MX⟩ wG
        rw [HI.out.2.2.1] at hCk
        dsimp only at hCk
        have HCk := Lib.hid hCk
        have HDG := Lib.hid DG
        clear hCk xF DF xG DG qG HSm HSF
        go_wp2_with (go_at_call 21; refine HCk.out.mono ?_; rintro e wI ⟨rfl, qI⟩; replace qI := Lib.hid qI; refine Hid.out ?_)
        refine Lib.hid ?_
        have DI := HDG.out.trans (qI.out.mono HDG.out.size)
        have HC9 := Lib.hid (HA.out wI DI)
        have HD8 := Lib.hid DI
        clear DI qI HCk HDG y0 y1 y2 y3 y4
        go_wp2_with (go_at_call 11; refine HC9.out.mono ?_; rintro e w9 ⟨rfl, q9⟩; replace q9 := Lib.hid q9; refine Hid.out ?_)
        refine Lib.hid ?_
        have HF := Lib.hid (HD8.out.trans (q9.out.mono HD8.out.size))
        clear q9 HC9 HD8
        go_wp2
        go_ret
        exact ⟨rfl, HF.out⟩
      · have hEn := sEntry_err ⟨id, ms, st, en⟩ ad cp time 7 wB (HX.out.1.on DB HX.out.1.lt) hmB HX.out.2.2.2 hE n HN.out
        dsimp only at hEn
        have hb : ((entryE ⟨id, ms, st, en⟩ time : Int) != 0) = true := by simpa using hE
        generalize entryE ⟨id, ms, st, en⟩ time = E at *
        have HEn := Lib.hid hEn
        have HS3 := Lib.hid DB
        have heq := fun u => run_eqE zeroE zeroE u
        rw [eqEn_refl] at heq
        dsimp only [zeroE] at heq
        clear hEn hE bB DB hmB
        go_wp2_with (go_at_call 20; refine HEn.out.mono ?_; rintro e wC ⟨rfl, qC⟩; replace qC := Lib.hid qC; refine Hid.out ?_)
        refine Lib.hid ?_
        have dD := (Below.refl wC.heap.size wC).alloc (Nat.le_refl _) (.cells #[.string ⟨#[]⟩, .int .i64 0, .int .u16 0, .string ⟨#[]⟩, .int .i64 0] 24)
        have DC := HS3.out.trans (qC.out.mono HS3.out.size)
        have DD := DC.trans (dD.mono DC.size)
        have HC9 := Lib.hid (HA.out (wC.alloc (.cells #[.string ⟨#[]⟩, .int .i64 0, .int .u16 0, .string ⟨#[]⟩, .int .i64 0] 24)) DD)
        have HD8 := Lib.hid DD
        clear DD DC dD qC HEn HS3 k0 k1 k2 k3
        go_wp2_with (go_at_call 11; refine HC9.out.mono ?_; rintro e w9 ⟨rfl, q9⟩; replace q9 := Lib.hid q9; refine Hid.out ?_)
        refine Lib.hid ?_
        have HF := Lib.hid (HD8.out.trans (q9.out.mono HD8.out.size))
        clear q9 HC9 HD8
        go_wp2
        go_ret
        exact ⟨rfl, HF.out⟩

end Go.Proofs.YtfllfmdopfeecabGreatDoor
