/-
  The walk of AlertFires.
-/
import Derived.Test.YtinohakjemjkhaaDoorA5
namespace Go.Proofs.YtinohakjemjkhaaDoor
open Go.RowKit

/-- Numbers of two bytes lie at an address. -/
def U16At (w : World) (a : Option Addr) (l : List Int) : Prop := 0 < l.length → ∃ b o, a = some ⟨b, o, none⟩ ∧ b < w.heap.size ∧ ∀ i (hi : i < l.length), w.cell? ⟨b, o + i, none⟩ = some (.int .u16 l[i]) ∧ 0 ≤ l[i] ∧ l[i] < 65536
theorem PairsAt.set {w : World} {a : Option Addr} {ps : List Pr} (h : PairsAt w a ps) (p : Addr) (v : Value) (hne : ∀ q, a = some q → q.block ≠ p.block) : PairsAt (w.setCell p v) a ps := fun hn => by
  obtain ⟨b, o, rfl, hc⟩ := h hn
  have e := Below.heap_setCell w p v b (hne _ rfl)
  refine ⟨b, o, rfl, fun i hi => ?_⟩
  rw [World.cell?_of_block (a := ⟨b, o + i * 2, none⟩) e, World.cell?_of_block (a := ⟨b, o + i * 2 + 1, none⟩) e]
  exact hc i hi
/-- Two cells that are read. -/
def C2 (w : World) (b1 p1 : Nat) (x : Int) (b2 p2 : Nat) (y : Int) : Prop := b1 < w.heap.size ∧ b2 < w.heap.size ∧ w.cell? ⟨b1, p1, none⟩ = some (.int .u16 x) ∧ w.cell? ⟨b2, p2, none⟩ = some (.int .u16 y)
theorem C2.below {w w' : World} {b1 p1 b2 p2 : Nat} {x y : Int} {N : Nat} (h : C2 w b1 p1 x b2 p2 y) (hb : Below N w w') (hN : w.heap.size ≤ N) : C2 w' b1 p1 x b2 p2 y :=
  ⟨Nat.lt_of_lt_of_le h.1 hb.size, Nat.lt_of_lt_of_le h.2.1 hb.size, (hb.cell (p := ⟨b1, p1, none⟩) (Nat.lt_of_lt_of_le h.1 hN)).trans h.2.2.1, (hb.cell (p := ⟨b2, p2, none⟩) (Nat.lt_of_lt_of_le h.2.1 hN)).trans h.2.2.2⟩

set_option maxRecDepth 100000 in
set_option maxHeartbeats 4000000 in
theorem fires_walk (a1 : Option Addr) (c1 : Nat) (l1 : List Int) (a2 : Option Addr) (c2 : Nat) (l2 : List Int) (w : World) (hv : TabOk w.heap.size w) (h1 : U16At w a1 l1) (h2 : U16At w a2 l2) (hn1 : l1.length ≤ 9223372036854775807) (hn2 : l2.length ≤ 9223372036854775807) :
    Calls Tryd.prog 7 #[.slice a1 l1.length c1, .slice a2 l2.length c2] w fun e w' => e = .returned (.bool true) ∧ Below w.heap.size w w' := by
  have HN := Lib.hid (aNew_st w)
  have HV := Lib.hid hv
  have H1 := Lib.hid h1
  have H2 := Lib.hid h2
  obtain ⟨n1, hl1⟩ : ∃ n, n = l1.length := ⟨_, rfl⟩
  obtain ⟨n2, hl2⟩ : ∃ n, n = l2.length := ⟨_, rfl⟩
  have HL := Lib.hid (And.intro hl1 hl2)
  rw [← hl1] at hn1 ⊢
  rw [← hl2] at hn2 ⊢
  clear hv h1 h2 hl1 hl2
  go_enter Tryd.func7, Tryd.ntmps7
  go_wp2_with (go_at_call 11; refine HN.out.mono ?_; rintro e w1 ⟨rfl, h1, b1⟩; refine Hid.out ?_)
  refine Lib.hid ?_
  have HS1 := Lib.hid h1
  have HB1 := Lib.hid b1
  clear h1 b1 HN
  go_wp2
  go_loopw [6] (fun i wr => ∃ (k : Nat) (S : List Rw), k ≤ n1 ∧ i = .int .i64 k ∧ Hid (StAt wr (w.heap.size + 1) w.heap.size S ∧ OneSt S (psA ⟨#[120]⟩)) ∧ Hid (Below w.heap.size w wr)) (fun i _ => n1 - (intOf i).toNat)
  case atStart => exact ⟨0, [], Nat.zero_le _, rfl, Lib.hid ⟨HS1.out, .inl rfl⟩, HB1⟩
  case round =>
    obtain ⟨k, S, hk, rfl, HS, HB⟩ := hrel
    clear HS1 HB1
    have HA := Lib.hid (aawake_any w.heap.size wr HB.out.size (HV.out.on HB.out))
    by_cases hlt1 : k < n1
    · have hk1 : (k : Int) < (n1 : Int) := by omega
      by_cases hlt2 : k < n2
      · have hk2 : (k : Int) < (n2 : Int) := by omega
        by_cases hlt3 : k < 40
        · have hk3 : (k : Int) < 40 := by omega
          clear HA
          obtain ⟨e1, e2⟩ := HL.out
          obtain ⟨b1, o1, rfl, hb1, hc1⟩ := H1.out (by omega)
          obtain ⟨b2, o2, rfl, hb2, hc2⟩ := H2.out (by omega)
          obtain ⟨x1, x2, x3⟩ := hc1 k (by omega)
          obtain ⟨y1, y2, y3⟩ := hc2 k (by omega)
          generalize l1[k]'(by omega) = x at *
          generalize l2[k]'(by omega) = y at *
          have hC : C2 wr b1 (o1 + k) x b2 (o2 + k) y := C2.below ⟨hb1, hb2, x1, y1⟩ HB.out (Nat.le_refl _)
          clear hc1 hc2 x1 y1 hb1 hb2 e1 e2
          go_wp2_with fail
          have wx : IntKind.i64.wrap x = x := by rw [IntKind.wrap_i64]; omega
          have wx1 : IntKind.i64.wrap (x + 1) = x + 1 := by rw [IntKind.wrap_i64]; omega
          have wy : IntKind.i64.wrap y = y := by rw [IntKind.wrap_i64]; omega
          have wxy : IntKind.i64.wrap (x + 1 + y) = x + 1 + y := by rw [IntKind.wrap_i64]; omega
          have wm : IntKind.i64.wrap (x + 1 + y - 1) = x + 1 + y - 1 := by rw [IntKind.wrap_i64]; omega
          have HO := Lib.hid (awOne_any ⟨#[120]⟩ x (x + 1 + y) wr.drew)
          refine wp_region_any (by kernel_rfl) ?_
          change wpAny _ _ _ _ _ _ _ (World.drew _)
          have hS : (fun w' : World => C2 w' b1 (o1 + k) x b2 (o2 + k) y) wr.drew := hC
          refine wpAny_of_held (S := fun w' => C2 w' b1 (o1 + k) x b2 (o2 + k) y) _ _ _ _ ?_
          refine wpAnyH_takeA (i := 0) (some 25) (v := ?_) rfl rfl (by as_aux_lemma => kernel_rfl) (by as_aux_lemma => kernel_rfl) (by as_aux_lemma => kernel_rfl) (fun _ _ _ h => h) (Or.inl ⟨by kernel_rfl, ?_⟩) hS ?_
          rotate_left
          · intro w hSw; have c0 := hSw.2.2.1; have c1 := hSw.2.2.2; go_simp
            first | done | with_reducible rfl
          refine wpAnyH_takeA (i := 1) (some 26) (v := ?_) rfl rfl (by as_aux_lemma => kernel_rfl) (by as_aux_lemma => kernel_rfl) (by as_aux_lemma => kernel_rfl) (fun _ _ _ h => h) (Or.inl ⟨by kernel_rfl, ?_⟩) hS ?_
          rotate_left
          · intro w hSw; have c0 := hSw.2.2.1; have c1 := hSw.2.2.2; go_simp
            first | done | with_reducible rfl
          refine wpAnyH_takeA (i := 2) (some 27) (v := ?_) rfl rfl (by as_aux_lemma => kernel_rfl) (by as_aux_lemma => kernel_rfl) (by as_aux_lemma => kernel_rfl) (fun _ _ _ h => h) (Or.inl ⟨by kernel_rfl, ?_⟩) hS ?_
          rotate_left
          · intro w hSw; have c0 := hSw.2.2.1; have c1 := hSw.2.2.2; go_simp
            first | done | with_reducible rfl
          refine wpAnyH_takeA (i := 3) (some 28) (v := ?_) rfl rfl (by as_aux_lemma => kernel_rfl) (by as_aux_lemma => kernel_rfl) (by as_aux_lemma => kernel_rfl) (fun _ _ _ h => h) (Or.inl ⟨by kernel_rfl, ?_⟩) hS ?_
          rotate_left
          · intro w hSw; have c0 := hSw.2.2.1; have c1 := hSw.2.2.2; go_simp
            first | done | with_reducible rfl
          refine wpAnyH_takeA (i := 4) (some 29) (v := ?_) rfl rfl (by as_aux_lemma => kernel_rfl) (by as_aux_lemma => kernel_rfl) (by as_aux_lemma => kernel_rfl) (fun _ _ _ h => h) (Or.inl ⟨by kernel_rfl, ?_⟩) hS ?_
          rotate_left
          · intro w hSw; have c0 := hSw.2.2.1; have c1 := hSw.2.2.2; go_simp
            first | done | with_reducible rfl
          refine wpAnyH_takeA (i := 5) (some 30) (v := ?_) rfl rfl (by as_aux_lemma => kernel_rfl) (by as_aux_lemma => kernel_rfl) (by as_aux_lemma => kernel_rfl) (fun _ _ _ h => h) (Or.inl ⟨by kernel_rfl, ?_⟩) hS ?_
          rotate_left
          · intro w hSw; have c0 := hSw.2.2.1; have c1 := hSw.2.2.2; go_simp
            first | done | with_reducible rfl
          refine wpAnyH_takeA (i := 6) (some 31) (v := ?_) rfl rfl (by as_aux_lemma => kernel_rfl) (by as_aux_lemma => kernel_rfl) (by as_aux_lemma => kernel_rfl) (fun _ _ _ h => h) (Or.inl ⟨by kernel_rfl, ?_⟩) hS ?_
          rotate_left
          · intro w hSw; have c0 := hSw.2.2.1; have c1 := hSw.2.2.2; go_simp
            first | done | with_reducible rfl
          refine wpAnyH_takeA (i := 7) (some 32) (v := ?_) rfl rfl (by as_aux_lemma => kernel_rfl) (by as_aux_lemma => kernel_rfl) (by as_aux_lemma => kernel_rfl) (fun _ _ _ h => h) (Or.inl ⟨by kernel_rfl, ?_⟩) hS ?_
          rotate_left
          · intro w hSw; have c0 := hSw.2.2.1; have c1 := hSw.2.2.2; go_simp
            first | done | with_reducible rfl
          refine wpAnyH_takeA (i := 8) (some 33) (v := ?_) rfl rfl (by as_aux_lemma => kernel_rfl) (by as_aux_lemma => kernel_rfl) (by as_aux_lemma => kernel_rfl) (fun _ _ _ h => h) (Or.inl ⟨by kernel_rfl, ?_⟩) hS ?_
          rotate_left
          · intro w hSw; have c0 := hSw.2.2.1; have c1 := hSw.2.2.2; go_simp
            first | done | with_reducible rfl
          refine wpAnyH_takeA (i := 9) (some 34) (v := ?_) rfl rfl (by as_aux_lemma => kernel_rfl) (by as_aux_lemma => kernel_rfl) (by as_aux_lemma => kernel_rfl) (fun _ _ _ h => h) (Or.inl ⟨by kernel_rfl, ?_⟩) hS ?_
          rotate_left
          · intro w hSw; have c0 := hSw.2.2.1; have c1 := hSw.2.2.2; go_simp
            first | done | with_reducible rfl
          refine wpAnyH_takeA (i := 10) (some 35) (v := ?_) rfl rfl (by as_aux_lemma => kernel_rfl) (by as_aux_lemma => kernel_rfl) (by as_aux_lemma => kernel_rfl) (fun _ _ _ h => h) (Or.inl ⟨by kernel_rfl, ?_⟩) hS ?_
          rotate_left
          · intro w hSw; have c0 := hSw.2.2.1; have c1 := hSw.2.2.2; go_simp
            first | done | with_reducible rfl
          refine wpAnyH_takeA (i := 11) (some 36) (v := ?_) rfl rfl (by as_aux_lemma => kernel_rfl) (by as_aux_lemma => kernel_rfl) (by as_aux_lemma => kernel_rfl) (fun _ _ _ h => h) (Or.inl ⟨by kernel_rfl, ?_⟩) hS ?_
          rotate_left
          · intro w hSw; have c0 := hSw.2.2.1; have c1 := hSw.2.2.2; go_simp
            first | done | with_reducible rfl
          refine wpAnyH_takeA (i := 12) (some 37) (v := ?_) rfl rfl (by as_aux_lemma => kernel_rfl) (by as_aux_lemma => kernel_rfl) (by as_aux_lemma => kernel_rfl) (fun _ _ _ h => h) (Or.inl ⟨by kernel_rfl, ?_⟩) hS ?_
          rotate_left
          · intro w hSw; have c0 := hSw.2.2.1; have c1 := hSw.2.2.2; go_simp
            first | done | with_reducible rfl
          refine wpAnyH_takeA (i := 13) (some 38) (v := ?_) rfl rfl (by as_aux_lemma => kernel_rfl) (by as_aux_lemma => kernel_rfl) (by as_aux_lemma => kernel_rfl) (fun _ _ _ h => h) (Or.inl ⟨by kernel_rfl, ?_⟩) hS ?_
          rotate_left
          · intro w hSw; have c0 := hSw.2.2.1; have c1 := hSw.2.2.2; go_simp
            first | done | with_reducible rfl
          refine wpAnyH_takeA (i := 14) (some 39) (v := ?_) rfl rfl (by as_aux_lemma => kernel_rfl) (by as_aux_lemma => kernel_rfl) (by as_aux_lemma => kernel_rfl) (fun _ _ _ h => h) (Or.inl ⟨by kernel_rfl, ?_⟩) hS ?_
          rotate_left
          · intro w hSw; have c0 := hSw.2.2.1; have c1 := hSw.2.2.2; go_simp
            first | done | with_reducible rfl
          refine wpAnyH_takeA (i := 15) (some 40) (v := ?_) rfl rfl (by as_aux_lemma => kernel_rfl) (by as_aux_lemma => kernel_rfl) (by as_aux_lemma => kernel_rfl) (fun _ _ _ h => h) (Or.inl ⟨by kernel_rfl, ?_⟩) hS ?_
          rotate_left
          · intro w hSw; have c0 := hSw.2.2.1; have c1 := hSw.2.2.2; go_simp
            first | done | with_reducible rfl
          refine wpAnyH_takeA (i := 16) (some 41) (v := ?_) rfl rfl (by as_aux_lemma => kernel_rfl) (by as_aux_lemma => kernel_rfl) (by as_aux_lemma => kernel_rfl) (fun _ _ _ h => h) (Or.inl ⟨by kernel_rfl, ?_⟩) hS ?_
          rotate_left
          · intro w hSw; have c0 := hSw.2.2.1; have c1 := hSw.2.2.2; go_simp
            first | done | with_reducible rfl
          refine wpAnyH_ready (rs := [17, 18]) (by as_aux_lemma => kernel_rfl) (by simp) ?_
          refine AllReadyH.cons rfl (fun K hK => ?_) (AllReadyH.cons rfl (fun K hK => ?_) AllReadyH.nil)
          · go_simp
            go_wp2_with (go_at_call 27; refine HO.out.mono ?_; rintro e w3 ⟨rfl, p3, q3⟩)
            refine hK.out _ _ ?_ (fun hS => ?_)
            · exact hS.below q3 (Nat.le_refl _)
            clear hK K
            have hS3 := hS
            refine wpAnyH_ready (rs := [18]) (by as_aux_lemma => kernel_rfl) (by simp) ?_
            refine AllReadyH.cons rfl (fun K hK => ?_) AllReadyH.nil
            go_simp
            refine hK.out _ _ ?_ (fun hS => ?_)
            · exact hS3.below ((Below.refl w3.heap.size w3).alloc (Nat.le_refl _) _) (Nat.le_refl _)
            clear hK K
            refine wpAnyH_ready (rs := [19]) (by as_aux_lemma => kernel_rfl) (by simp) ?_
            refine AllReadyH.cons rfl (fun K hK => ?_) AllReadyH.nil
            go_simp
            refine hK.out _ _ ?_ (fun hS => ?_)
            · exact hS3.below ((Below.refl w3.heap.size w3).alloc (Nat.le_refl _) _) (Nat.le_refl _)
            clear hK K
            refine wpAnyH_done (by kernel_rfl) ?_ _
            clear hS hS3
            go_simp
            have q3' : Below wr.heap.size wr w3 := (Below.refl wr.heap.size wr).drew.trans q3
            have d4 := (Below.refl w3.heap.size w3).alloc (Nat.le_refl _) (.cells #[.slice (some ⟨wr.heap.size + 1, 0, none⟩) 1 1, .int .i64 x, .int .i64 (x + 1 + y)] 34)
            have b4 := q3'.trans (d4.mono q3'.size)
            have k4 := AlBlk.new w3 (some ⟨wr.heap.size + 1, 0, none⟩) 1 1 x (x + 1 + y)
            have p4 : PairsAt (w3.alloc (.cells #[.slice (some ⟨wr.heap.size + 1, 0, none⟩) 1 1, .int .i64 x, .int .i64 (x + 1 + y)] 34)) (some ⟨wr.heap.size + 1, 0, none⟩) (psA ⟨#[120]⟩) := PairsAt.below p3 d4 (Nat.le_refl _)
            have hxb : wr.heap.size ≤ w3.heap.size := q3'.size
            clear q3 q3' p3 d4
            generalize wr.heap.size + 1 = lb at *
            generalize (w3.alloc (.cells #[.slice (some ⟨lb, 0, none⟩) 1 1, .int .i64 x, .int .i64 (x + 1 + y)] 34)) = w4 at *
            generalize w3.heap.size = xb at *
            have HP4 := Lib.hid (aPut_single (w.heap.size + 1) w.heap.size S (some ⟨lb, 0, none⟩) 1 (psA ⟨#[120]⟩) x (x + 1 + y) w.heap.size w4 (HS.out.1.below b4 (Nat.le_refl _)) HS.out.2 (alE_mk psA_x (by simp [psA]) (by omega) (by omega) (by omega)) p4 (Nat.le_trans HB.out.size b4.size) (HV.out.on (HB.out.trans (b4.mono HB.out.size))) 1 rfl)
            have hxw : w.heap.size < xb := by have := ltA HS.out.1.1; omega
            have c0 := k4.c0; have c1' := k4.c1; have c2' := k4.c2
            have HH4 := Lib.hid (And.intro k4 b4)
            clear k4 b4 p4 HO hC
            go_wp2_with (go_at_call 17; refine HP4.out.mono ?_; rintro e w5 ⟨rfl, g5, y5, h5, y5p, y5e, y5s, -⟩; refine Hid.out ?_)
            refine Lib.hid ?_
            obtain ⟨k4, b4⟩ := HH4.out
            have b5 : Below w.heap.size w w5 := (HB.out.trans (b4.mono HB.out.size)).grown g5 (Nat.le_trans HB.out.size b4.size) (fun k e => by obtain rfl := Option.some.inj e; exact Nat.le_refl _)
            have k5 : AlBlk w5 xb (some ⟨lb, 0, none⟩) 1 1 x (x + 1 + y) := (g5.block xb (ltA k4) (fun e => by have := Option.some.inj e; omega)).trans k4
            have HF5 := Lib.hid (aFiring_single _ _ _ x w5 h5)
            have t5 : firesP y5.st y5.en x = true := by unfold firesP; rw [Bool.and_eq_true, decide_eq_true_eq, decide_eq_true_eq]; omega
            have t6 : firesP y5.st y5.en (x + 1 + y - 1) = true := by unfold firesP; rw [Bool.and_eq_true, decide_eq_true_eq, decide_eq_true_eq]; omega
            have t7 : firesP y5.st y5.en (x + 1 + y) = false := by unfold firesP; rw [Bool.and_eq_false_iff, decide_eq_false_iff_not, decide_eq_false_iff_not]; omega
            rw [t5] at HF5
            have d1 := k5.c1; have d2 := k5.c2
            have HH5 := Lib.hid (And.intro k5 (And.intro b5 (And.intro h5 (And.intro y5p (And.intro t6 t7)))))
            clear k4 b4 k5 b5 h5 y5p y5e y5s t5 t6 t7 g5 HP4 HH4 c0 c1' c2'
            go_wp2_with (go_at_call 19; refine HF5.out.mono ?_; rintro e w6 ⟨⟨a6, c6, rfl, -⟩, q6⟩; refine Hid.out ?_)
            refine Lib.hid ?_
            obtain ⟨k5, b5, h5, y5p, t6, t7⟩ := HH5.out
            have k6 := k5.below q6 (ltA k5)
            have b6 := b5.trans (q6.mono b5.size)
            have h6 := h5.below q6 (Nat.le_refl _)
            have HF6 := Lib.hid (aFiring_single _ _ _ (x + 1 + y - 1) w6 h6)
            rw [t6] at HF6
            have d3 := k6.c2
            have HH6 := Lib.hid (And.intro k6 (And.intro b6 (And.intro h6 (And.intro y5p t7))))
            clear k5 b5 h5 k6 b6 h6 y5p t6 t7 q6 HF5 HH5 d1 d2
            go_wp2_with (go_at_call 19; refine HF6.out.mono ?_; rintro e w7 ⟨⟨a7, c7, rfl, -⟩, q7⟩; refine Hid.out ?_)
            refine Lib.hid ?_
            obtain ⟨k6, b6, h6, y5p, t7⟩ := HH6.out
            have k7 := k6.below q7 (ltA k6)
            have b7 := b6.trans (q7.mono b6.size)
            have h7 := h6.below q7 (Nat.le_refl _)
            have HF7 := Lib.hid (aFiring_single _ _ _ (x + 1 + y) w7 h7)
            rw [t7] at HF7
            have d4 := k7.c2
            have HH7 := Lib.hid (And.intro b7 (And.intro h7 y5p))
            clear k6 b6 h6 k7 b7 h7 y5p t7 q7 HF6 HH6 d3
            go_wp2_with (go_at_call 19; refine HF7.out.mono ?_; rintro e w8 ⟨⟨a8, c8, rfl, -⟩, q8⟩; refine Hid.out ?_)
            refine Lib.hid ?_
            obtain ⟨b7, h7, y5p⟩ := HH7.out
            have b8 := b7.trans (q8.mono b7.size)
            have h8 := h7.below q8 (Nat.le_refl _)
            have HLe := Lib.hid (aLen_any _ _ _ w8 h8.1 h8.2.1)
            have HH8 := Lib.hid (And.intro b8 (And.intro h8 y5p))
            clear b7 h7 y5p b8 h8 q8 HF7 HH7 d4
            go_wp2_with (go_at_call 21; refine HLe.out.mono ?_; rintro e w9 ⟨rfl, rfl⟩)
            go_roundw
            case rel => exact ⟨k + 1, [y5], by omega, by go_num, Lib.hid ⟨HH8.out.2.1, .inr ⟨y5, rfl, HH8.out.2.2⟩⟩, Lib.hid HH8.out.1⟩
            case measure => simp [intOf]; omega
          · go_simp
            have z4 := AlBlk.new wr none 0 0 0 0
            have dz := (Below.refl wr.heap.size wr).alloc (Nat.le_refl _) (.cells #[.slice none 0 0, .int .i64 0, .int .i64 0] 34)
            refine hK.out _ _ ?_ (fun hS => ?_)
            · exact C2.below hC dz.drew (Nat.le_refl _)
            clear hK K
            have HO2 := Lib.hid (awOne_any ⟨#[120]⟩ x (x + 1 + y) (wr.alloc (.cells #[.slice none 0 0, .int .i64 0, .int .i64 0] 34)).drew)
            refine wpAnyH_ready (rs := [17]) (by as_aux_lemma => kernel_rfl) (by simp) ?_
            refine AllReadyH.cons rfl (fun K hK => ?_) AllReadyH.nil
            go_simp
            go_wp2_with (go_at_call 27; refine HO2.out.mono ?_; rintro e w3 ⟨rfl, p3, q3⟩)
            have q3z : Below (wr.alloc (.cells #[.slice none 0 0, .int .i64 0, .int .i64 0] 34)).heap.size (wr.alloc (.cells #[.slice none 0 0, .int .i64 0, .int .i64 0] 34)) w3 := (Below.refl _ _).drew.trans q3
            have q3' : Below wr.heap.size wr w3 := dz.trans (q3z.mono dz.size)
            refine hK.out _ _ ?_ (fun hS => ?_)
            · exact C2.below hC q3' (Nat.le_refl _)
            clear hK K
            have z3 := z4.below q3z (by simp)
            have e0 := z3.c0; have e1 := z3.c1; have e2 := z3.c2
            have f0 := z3.f 0; have f1 := z3.f 1; have f2 := z3.f 2
            have k4 := ((z3.set0 (a' := some ⟨wr.heap.size + 1 + 1, 0, none⟩) (n' := 1) (c' := 1)).set1 (x := x)).set2 (x := x + 1 + y)
            have b4 := ((q3'.setCell (p := ⟨wr.heap.size, 0, none⟩) (Nat.le_refl _) (.slice (some ⟨wr.heap.size + 1 + 1, 0, none⟩) 1 1)).setCell (p := ⟨wr.heap.size, 1, none⟩) (Nat.le_refl _) (.int .i64 x)).setCell (p := ⟨wr.heap.size, 2, none⟩) (Nat.le_refl _) (.int .i64 (x + 1 + y))
            refine wpAnyH_ready (rs := [19]) (by as_aux_lemma => kernel_rfl) (by simp) ?_
            refine AllReadyH.cons rfl (fun K hK => ?_) AllReadyH.nil
            go_simp
            refine hK.out _ _ ?_ (fun hS => ?_)
            · exact C2.below hC b4 (Nat.le_refl _)
            clear hK K
            refine wpAnyH_done (by kernel_rfl) ?_ _
            clear hS
            go_simp
            have sz : (wr.alloc (.cells #[.slice none 0 0, .int .i64 0, .int .i64 0] 34)).drew.heap.size = wr.heap.size + 1 := by simp
            rw [sz] at p3
            have p4 := PairsAt.set (PairsAt.set (PairsAt.set p3 ⟨wr.heap.size, 0, none⟩ (.slice (some ⟨wr.heap.size + 1 + 1, 0, none⟩) 1 1) (fun q e => by obtain rfl := Option.some.inj e; show wr.heap.size + 1 + 1 ≠ wr.heap.size; omega)) ⟨wr.heap.size, 1, none⟩ (.int .i64 x) (fun q e => by obtain rfl := Option.some.inj e; show wr.heap.size + 1 + 1 ≠ wr.heap.size; omega)) ⟨wr.heap.size, 2, none⟩ (.int .i64 (x + 1 + y)) (fun q e => by obtain rfl := Option.some.inj e; show wr.heap.size + 1 + 1 ≠ wr.heap.size; omega)
            have hxb : wr.heap.size ≤ wr.heap.size := Nat.le_refl _
            clear q3 q3' q3z p3 dz z3 z4 e0 e1 e2 f0 f1 f2 sz HO2
            generalize wr.heap.size + 1 + 1 = lb at *
            generalize ((w3.setCell ⟨wr.heap.size, 0, none⟩ (.slice (some ⟨lb, 0, none⟩) 1 1)).setCell ⟨wr.heap.size, 1, none⟩ (.int .i64 x)).setCell ⟨wr.heap.size, 2, none⟩ (.int .i64 (x + 1 + y)) = w4 at *
            obtain ⟨xb, hxx⟩ : ∃ xb, wr.heap.size = xb := ⟨_, rfl⟩
            have k4 : AlBlk w4 xb (some ⟨lb, 0, none⟩) 1 1 x (x + 1 + y) := hxx ▸ k4
            rw [hxx] at hxb ⊢
            have hxb : wr.heap.size ≤ xb := by omega
            clear hxx
            have HP4 := Lib.hid (aPut_single (w.heap.size + 1) w.heap.size S (some ⟨lb, 0, none⟩) 1 (psA ⟨#[120]⟩) x (x + 1 + y) w.heap.size w4 (HS.out.1.below b4 (Nat.le_refl _)) HS.out.2 (alE_mk psA_x (by simp [psA]) (by omega) (by omega) (by omega)) p4 (Nat.le_trans HB.out.size b4.size) (HV.out.on (HB.out.trans (b4.mono HB.out.size))) 1 rfl)
            have hxw : w.heap.size < xb := by have := ltA HS.out.1.1; omega
            have c0 := k4.c0; have c1' := k4.c1; have c2' := k4.c2
            have HH4 := Lib.hid (And.intro k4 b4)
            clear k4 b4 p4 HO hC
            go_wp2_with (go_at_call 17; refine HP4.out.mono ?_; rintro e w5 ⟨rfl, g5, y5, h5, y5p, y5e, y5s, -⟩; refine Hid.out ?_)
            refine Lib.hid ?_
            obtain ⟨k4, b4⟩ := HH4.out
            have b5 : Below w.heap.size w w5 := (HB.out.trans (b4.mono HB.out.size)).grown g5 (Nat.le_trans HB.out.size b4.size) (fun k e => by obtain rfl := Option.some.inj e; exact Nat.le_refl _)
            have k5 : AlBlk w5 xb (some ⟨lb, 0, none⟩) 1 1 x (x + 1 + y) := (g5.block xb (ltA k4) (fun e => by have := Option.some.inj e; omega)).trans k4
            have HF5 := Lib.hid (aFiring_single _ _ _ x w5 h5)
            have t5 : firesP y5.st y5.en x = true := by unfold firesP; rw [Bool.and_eq_true, decide_eq_true_eq, decide_eq_true_eq]; omega
            have t6 : firesP y5.st y5.en (x + 1 + y - 1) = true := by unfold firesP; rw [Bool.and_eq_true, decide_eq_true_eq, decide_eq_true_eq]; omega
            have t7 : firesP y5.st y5.en (x + 1 + y) = false := by unfold firesP; rw [Bool.and_eq_false_iff, decide_eq_false_iff_not, decide_eq_false_iff_not]; omega
            rw [t5] at HF5
            have d1 := k5.c1; have d2 := k5.c2
            have HH5 := Lib.hid (And.intro k5 (And.intro b5 (And.intro h5 (And.intro y5p (And.intro t6 t7)))))
            clear k4 b4 k5 b5 h5 y5p y5e y5s t5 t6 t7 g5 HP4 HH4 c0 c1' c2'
            go_wp2_with (go_at_call 19; refine HF5.out.mono ?_; rintro e w6 ⟨⟨a6, c6, rfl, -⟩, q6⟩; refine Hid.out ?_)
            refine Lib.hid ?_
            obtain ⟨k5, b5, h5, y5p, t6, t7⟩ := HH5.out
            have k6 := k5.below q6 (ltA k5)
            have b6 := b5.trans (q6.mono b5.size)
            have h6 := h5.below q6 (Nat.le_refl _)
            have HF6 := Lib.hid (aFiring_single _ _ _ (x + 1 + y - 1) w6 h6)
            rw [t6] at HF6
            have d3 := k6.c2
            have HH6 := Lib.hid (And.intro k6 (And.intro b6 (And.intro h6 (And.intro y5p t7))))
            clear k5 b5 h5 k6 b6 h6 y5p t6 t7 q6 HF5 HH5 d1 d2
            go_wp2_with (go_at_call 19; refine HF6.out.mono ?_; rintro e w7 ⟨⟨a7, c7, rfl, -⟩, q7⟩; refine Hid.out ?_)
            refine Lib.hid ?_
            obtain ⟨k6, b6, h6, y5p, t7⟩ := HH6.out
            have k7 := k6.below q7 (ltA k6)
            have b7 := b6.trans (q7.mono b6.size)
            have h7 := h6.below q7 (Nat.le_refl _)
            have HF7 := Lib.hid (aFiring_single _ _ _ (x + 1 + y) w7 h7)
            rw [t7] at HF7
            have d4 := k7.c2
            have HH7 := Lib.hid (And.intro b7 (And.intro h7 y5p))
            clear k6 b6 h6 k7 b7 h7 y5p t7 q7 HF6 HH6 d3
            go_wp2_with (go_at_call 19; refine HF7.out.mono ?_; rintro e w8 ⟨⟨a8, c8, rfl, -⟩, q8⟩; refine Hid.out ?_)
            refine Lib.hid ?_
            obtain ⟨b7, h7, y5p⟩ := HH7.out
            have b8 := b7.trans (q8.mono b7.size)
            have h8 := h7.below q8 (Nat.le_refl _)
            have HLe := Lib.hid (aLen_any _ _ _ w8 h8.1 h8.2.1)
            have HH8 := Lib.hid (And.intro b8 (And.intro h8 y5p))
            clear b7 h7 y5p b8 h8 q8 HF7 HH7 d4
            go_wp2_with (go_at_call 21; refine HLe.out.mono ?_; rintro e w9 ⟨rfl, rfl⟩)
            go_roundw
            case rel => exact ⟨k + 1, [y5], by omega, by go_num, Lib.hid ⟨HH8.out.2.1, .inr ⟨y5, rfl, HH8.out.2.2⟩⟩, Lib.hid HH8.out.1⟩
            case measure => simp [intOf]; omega

        · have hk3 : ¬ (k : Int) < 40 := by omega
          go_wp2_with (go_at_call 10; refine HA.out.mono ?_; rintro e w2 ⟨rfl, q2⟩)
          go_ret
          exact ⟨rfl, HB.out.trans (q2.mono HB.out.size)⟩
      · have hk2 : ¬ (k : Int) < (n2 : Int) := by omega
        go_wp2_with (go_at_call 10; refine HA.out.mono ?_; rintro e w2 ⟨rfl, q2⟩)
        go_ret
        exact ⟨rfl, HB.out.trans (q2.mono HB.out.size)⟩
    · have hk1 : ¬ (k : Int) < (n1 : Int) := by omega
      go_wp2_with (go_at_call 10; refine HA.out.mono ?_; rintro e w2 ⟨rfl, q2⟩)
      go_ret
      exact ⟨rfl, HB.out.trans (q2.mono HB.out.size)⟩
end Go.Proofs.YtinohakjemjkhaaDoor
