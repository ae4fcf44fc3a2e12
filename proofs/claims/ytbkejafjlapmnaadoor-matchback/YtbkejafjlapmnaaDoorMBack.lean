/-
  The walk of MatchBack.
-/
import Derived.Test.YtbkejafjlapmnaaDoorM10
import Derived.Test.YtbkejafjlapmnaaDoorM4
import Derived.Deep.RegionHeld3
namespace Go.Proofs.YtbkejafjlapmnaaDoor
open Go.RowKit Go.Shelf

/-- One operation is taken first, its slot said. -/
theorem wpAnyH_take_at {P : Program} {ops : Array Oper} {Q : Exit → Act → World → Prop} {md : Region.Mode} {S : World → Prop} {i : Nat} (dst : Option Nat) {oi : Oper} {v : Value} {fuel : Nat} {listed : Array Bool} {a : Act} {w : World} (hi : ops[i]? = some oi) (hd : oi.dst = dst)
    (hs : Region.noSelect ops = true) (hf : Region.free md ops listed i = true) (hr : (Region.ready md ops listed).contains i = true)
    (hQ : ∀ c a w, Q (.panic c) (a.put dst v) w → Q (.panic c) a w) (hy : YieldsIf P ops S oi v a) (hS : S w)
    (h : wpAnyH P md ops Q S fuel (listed.setIfInBounds i true) (a.put dst v) w) : wpAnyH P md ops Q S (fuel + 1) listed a w := by
  subst hd
  exact wpAnyH_take hi hs hf hr hQ hy hS h

theorem reads_yes {s : ByteArray} {e : Ending} {m : Mt} (h : ReadsAs s e) (hf : First s m) : e = .returned (.tuple #[.agg #[.string m.1, .int .u8 (m.2.1 : Int), .string m.2.2], .int .i64 0]) := by
  rcases h with ⟨m', h1, h2⟩ | ⟨h1, -⟩
  · rw [h1.one hf] at h2
    exact h2
  · exact absurd hf.2.1 (h1 m hf.1)
theorem reads_no {s : ByteArray} {e : Ending} (h : ReadsAs s e) (hn : NoFirst s) : e = .returned (.tuple #[.agg #[.string ⟨#[]⟩, .int .u8 0, .string ⟨#[]⟩], .int .i64 4]) := by
  rcases h with ⟨m', h1, -⟩ | ⟨-, h2⟩
  · exact absurd h1.2.1 (hn m' h1.1)
  · exact h2
theorem first_or (s : ByteArray) : (∃ m, First s m) ∨ NoFirst s := by
  by_cases h : NoFirst s
  · exact Or.inr h
  · refine Or.inl (Classical.byContradiction fun k => h fun m h1 h2 => k ?_)
    obtain ⟨m', h3, -⟩ := first_back h1
    exact ⟨m', by rw [← h2]; exact h3⟩
theorem tells_one (A : Prop) : ∃ d : Bool, ∀ e, Tells A e → e = .returned (.bool d) := by
  refine ⟨@decide A (Classical.propDecidable _), fun e ⟨b, h1, h2⟩ => ?_⟩
  have : @decide A (Classical.propDecidable _) = b := by rw [Bool.eq_iff_iff, @decide_eq_true_iff _ (Classical.propDecidable _), h2]
  rw [this]
  exact h1

set_option maxRecDepth 20000 in
set_option maxHeartbeats 8000000 in
theorem back_walk (n : ByteArray) (o : Nat) (v s : ByteArray) (d : Option Addr) (c : Nat) (ps : List Pr) (w : World) (htab : TabW w) (h : PairsAt w d ps) (hn : ps.length ≤ 9223372036854775807) (hs : s.size ≤ 9223372036854775807) :
    Calls Tryd.prog 4 #[.agg #[.string n, .int .u8 (o : Int), .string v], .string s, .slice d ps.length c] w fun e w' => e = .returned (.bool true) ∧ Below w.heap.size w w' := by
  have htl := htab.lt
  have HW := Lib.hid (fun u (hu : TabW u) => mawake_any u hu)
  have hb0 := (Below.refl w.heap.size w).alloc (Nat.le_refl _) (.cells #[.string n, .int .u8 (o : Int), .string v] 24)
  by_cases h1 : 200 < s.size
  · have h1' : (200 : Int) < (s.size : Int) := by omega
    have HW1 := Lib.hid (HW.out _ (htab.on hb0 htl))
    go_enter Tryd.func4, Tryd.ntmps4
    go_wp2_with (go_at_call 9; refine HW1.out.mono ?_; rintro e w2 ⟨rfl, q2⟩)
    go_ret
    exact ⟨rfl, hb0.trans (q2.mono hb0.size)⟩
  have h1' : ¬ (200 : Int) < (s.size : Int) := by omega
  have HL := Lib.hid (nLight_any none d 0 0 c ps _ (h.below hb0 (Nat.le_refl _)) (by decide) hn)
  by_cases hl : LightP 0 ps
  · rw [decide_eq_true hl] at HL
    have hv : ∀ p ∈ ps, p.2.size ≤ 9223372036854775807 := fun p hp => by have := hl.2.2 p hp; omega
    obtain ⟨dd, hdd⟩ := tells_one (mAsk ps (n, o, v))
    have HO := Lib.hid (fun u (hb : Below w.heap.size w u) => (mOne_any n o v d c ps u (htab.on hb htl) (h.below hb (Nat.le_refl _)) hn hv _ rfl).mono fun e w' hk => And.intro (hdd e hk.1) hk.2)
    have HR := Lib.hid (fun (t : ByteArray) u (hb : Below w.heap.size w u) (k : t.size < 4294967281) => mRead_reads t u (htab.on hb htl) k)
    have HC := Lib.hid (fun (m : Mt) u (hb : Below w.heap.size w u) => mCheck_any m.1 m.2.1 m.2.2 u (htab.on hb htl))
    have HX := Lib.hid (fun (m : Mt) u (k : m.1.size + m.2.2.size + 2 ≤ 9223372036854775807) => mText_any m.1 m.2.1 m.2.2 u k)
    have HW2 := Lib.hid (fun u (hb : Below w.heap.size w u) => HW.out u (htab.on hb htl))
    have hb0h := Lib.hid hb0
    clear hl hv HW hb0 htab h hdd
    go_enter Tryd.func4, Tryd.ntmps4
    go_wp2_with (go_at_call 14; refine HL.out.mono ?_; rintro e w1 ⟨rfl, q1⟩; refine Hid.out ?_)
    refine Lib.hid ?_
    have b1 := hb0h.out.trans (q1.mono hb0h.out.size)
    have m1 : MtBlk w1 w.heap.size (n, o, v) := (q1.block w.heap.size (by simp)).trans (heap_new' w _)
    clear q1 HL hb0h
    have HR1 := Lib.hid (HR.out s w1 b1 (by omega))
    rcases first_or s with ⟨⟨mn, mo, mv⟩, hf⟩ | hno
    · have hsm : mn.size + mv.size + 2 ≤ 9223372036854775807 := by obtain ⟨⟨⟨-, k1⟩, -⟩, -, k2, -⟩ := mErr_zero hf.1; simp only at k1 k2; omega
      have HF := Lib.hid hf
      have HTs := Lib.hid (fun u => HX.out (mn, mo, mv) u hsm)
      simp only [hf.2.1] at HTs
      have HCs := Lib.hid (fun u hb => HC.out (mn, mo, mv) u hb)
      simp only [hf.1] at HCs
      clear hf hsm
      go_wp2_with (go_at_call 10; refine HR1.out.mono ?_; rintro e w2 ⟨hr, q2⟩; obtain rfl := reads_yes hr HF.out; clear hr; refine Hid.out ?_)
      refine Lib.hid ?_
      have b2 := b1.trans (q2.mono b1.size)
      have m2 := m1.below q2
      clear q2 HR1 b1 m1 HF
      have b3 := b2.alloc b2.size (.cells #[.string mn, .int .u8 (mo : Int), .string mv] 24)
      have m3 : MtBlk (w2.alloc (.cells #[.string mn, .int .u8 (mo : Int), .string mv] 24)) w.heap.size (n, o, v) := m2.below ((Below.refl _ _).alloc (Nat.le_refl _) _)
      have x3 : MtBlk (w2.alloc (.cells #[.string mn, .int .u8 (mo : Int), .string mv] 24)) w2.heap.size (mn, mo, mv) := heap_new w2 _
      clear b2 m2
      go_wp2_with fail
      generalize hW3 : w2.alloc (.cells #[.string mn, .int .u8 (mo : Int), .string mv] 24) = w3 at *
      clear hW3
      generalize w2.heap.size = B2 at *
      go_wp2_with (go_at_call 12; refine (HTs.out _).mono ?_; rintro e w4 ⟨rfl, q4⟩; refine Hid.out ?_)
      refine Lib.hid ?_
      have b4 := b3.trans (q4.mono b3.size)
      have m4 := m3.below q4
      have x4 := x3.below q4
      clear q4 b3 m3 x3
      have c0 := x4.cell0
      have c1 := x4.cell1
      have c2 := x4.cell2
      simp only at c0 c1 c2
      have HC4 := Lib.hid (HCs.out w4 b4)
      go_wp2_with (go_at_call 15; refine HC4.out.mono ?_; rintro e w5 ⟨rfl, q5⟩; refine Hid.out ?_)
      refine Lib.hid ?_
      have b5 := b4.trans (q5.mono b4.size)
      have m5 := m4.below q5
      clear q5 b4 m4 x4 c0 c1 c2 HC4 HTs HCs
      have c0 := m5.cell0
      have c1 := m5.cell1
      have c2 := m5.cell2
      simp only at c0 c1 c2
      go_wp2_with fail
      clear c0 c1 c2
      by_cases hE : mErr (n, o, v) = 0
      · obtain ⟨⟨n', o', v'⟩, hf', hnm⟩ := first_back hE
        simp only at hnm
        subst n'
        have hsz : (n.size ≤ 16 ∧ v.size ≤ 64) ∧ v'.size ≤ 64 := by
          obtain ⟨⟨⟨-, k1⟩, -⟩, -, k2, -⟩ := mErr_zero hE
          obtain ⟨-, -, k4, -⟩ := mErr_zero hf'.1
          exact ⟨⟨k1, k2⟩, k4⟩
        have HT1 := Lib.hid (fun u => HX.out (n, o, v) u (by have := hsz; simp only; omega))
        have HT2 := Lib.hid (fun u => HX.out (n, o', v') u (by have := hsz; simp only; omega))
        have HR2 := Lib.hid (fun u hb => HR.out (textM (n, o, v)) u hb (by
          have h1 := text_size (n, o, v)
          have h2 : (signL o).size ≤ 2 := by unfold signL; split <;> (try split) <;> (try split) <;> (try split) <;> decide
          have := hsz
          simp only at h1
          omega))
        simp only [hf'.2.1] at HT1 HT2
        have HF' := Lib.hid hf'
        clear hf' hsz
        generalize textM (n, o, v) = T at *
        have HC1 := Lib.hid (HC.out (n, o, v) _ b5)
        simp only [hE] at HC1
        clear hE HC HX HR
        go_wp2_with (go_at_call 15; refine HC1.out.mono ?_; rintro e w6 ⟨rfl, q6⟩; refine Hid.out ?_)
        refine Lib.hid ?_
        have b6 := b5.trans (q6.mono b5.size)
        have m6 := m5.below q6
        clear q6 HC1 b5 m5
        have c0 := m6.cell0
        have c1 := m6.cell1
        have c2 := m6.cell2
        simp only at c0 c1 c2
        go_wp2_with (go_at_call 12; refine (HT1.out _).mono ?_; rintro e w7' ⟨rfl, q7⟩; refine Hid.out ?_)
        refine Lib.hid ?_
        have b7' := b6.trans (q7.mono b6.size)
        have m7' := m6.below q7
        clear q7 c0 c1 c2 b6 m6
        have HR3 := Lib.hid (HR2.out w7' b7')
        go_wp2_with (go_at_call 10; refine HR3.out.mono ?_; rintro e w7 ⟨hr, q7⟩; obtain rfl := reads_yes hr HF'.out; clear hr; refine Hid.out ?_)
        refine Lib.hid ?_
        have b7 := b7'.trans (q7.mono b7'.size)
        have m7 := m7'.below q7
        clear q7 b7' m7' HR3 HR2 HF'
        have b8 := b7.alloc b7.size (.cells #[.string n, .int .u8 (o' : Int), .string v'] 24)
        have m8 : MtBlk (w7.alloc (.cells #[.string n, .int .u8 (o' : Int), .string v'] 24)) w.heap.size (n, o, v) := m7.below ((Below.refl _ _).alloc (Nat.le_refl _) _)
        have x8 : MtBlk (w7.alloc (.cells #[.string n, .int .u8 (o' : Int), .string v'] 24)) w7.heap.size (n, o', v') := heap_new w7 _
        clear b7 m7
        go_wp2_with fail
        generalize w7.alloc (.cells #[.string n, .int .u8 (o' : Int), .string v'] 24) = w8 at *
        generalize w7.heap.size = B7 at *
        refine wp_region_any (by kernel_rfl) ?_
        change wpAny _ _ _ _ _ _ _ (World.drew _)
        have hS : (fun w' : World => MtBlk w' w.heap.size (n, o, v) ∧ MtBlk w' B7 (n, o', v')) w8.drew := ⟨m8, x8⟩
        refine wpAny_of_held (S := fun w' => MtBlk w' w.heap.size (n, o, v) ∧ MtBlk w' B7 (n, o', v')) _ _ _ _ ?_
        refine wpAnyH_take_at (i := 0) (some 61) (v := ?_) rfl rfl (by as_aux_lemma => kernel_rfl) (by as_aux_lemma => kernel_rfl) (by as_aux_lemma => kernel_rfl) (fun _ _ _ h => h) (Or.inl ⟨by kernel_rfl, ?_⟩) hS ?_
        rotate_left
        · intro w hSw; have c0 := hSw.1.cell0; have c1 := hSw.1.cell1; have c2 := hSw.1.cell2; have d0 := hSw.2.cell0; have d1 := hSw.2.cell1; have d2 := hSw.2.cell2; simp only at c0 c1 c2 d0 d1 d2; go_simp
          first | done | with_reducible rfl
        skip
        refine wpAnyH_take_at (i := 1) (some 62) (v := ?_) rfl rfl (by as_aux_lemma => kernel_rfl) (by as_aux_lemma => kernel_rfl) (by as_aux_lemma => kernel_rfl) (fun _ _ _ h => h) (Or.inl ⟨by kernel_rfl, ?_⟩) hS ?_
        rotate_left
        · intro w hSw; have c0 := hSw.1.cell0; have c1 := hSw.1.cell1; have c2 := hSw.1.cell2; have d0 := hSw.2.cell0; have d1 := hSw.2.cell1; have d2 := hSw.2.cell2; simp only at c0 c1 c2 d0 d1 d2; go_simp
          first | done | with_reducible rfl
        skip
        refine wpAnyH_take_at (i := 2) (some 63) (v := ?_) rfl rfl (by as_aux_lemma => kernel_rfl) (by as_aux_lemma => kernel_rfl) (by as_aux_lemma => kernel_rfl) (fun _ _ _ h => h) (Or.inl ⟨by kernel_rfl, ?_⟩) hS ?_
        rotate_left
        · intro w hSw; have c0 := hSw.1.cell0; have c1 := hSw.1.cell1; have c2 := hSw.1.cell2; have d0 := hSw.2.cell0; have d1 := hSw.2.cell1; have d2 := hSw.2.cell2; simp only at c0 c1 c2 d0 d1 d2; go_simp
          first | done | with_reducible rfl
        skip
        refine wpAnyH_take_at (i := 3) (some 64) (v := ?_) rfl rfl (by as_aux_lemma => kernel_rfl) (by as_aux_lemma => kernel_rfl) (by as_aux_lemma => kernel_rfl) (fun _ _ _ h => h) (Or.inl ⟨by kernel_rfl, ?_⟩) hS ?_
        rotate_left
        · intro w hSw; have c0 := hSw.1.cell0; have c1 := hSw.1.cell1; have c2 := hSw.1.cell2; have d0 := hSw.2.cell0; have d1 := hSw.2.cell1; have d2 := hSw.2.cell2; simp only at c0 c1 c2 d0 d1 d2; go_simp
          first | done | with_reducible rfl
        skip
        refine wpAnyH_take_at (i := 5) (some 66) (v := ?_) rfl rfl (by as_aux_lemma => kernel_rfl) (by as_aux_lemma => kernel_rfl) (by as_aux_lemma => kernel_rfl) (fun _ _ _ h => h) (Or.inl ⟨by kernel_rfl, ?_⟩) hS ?_
        rotate_left
        · intro w hSw; have c0 := hSw.1.cell0; have c1 := hSw.1.cell1; have c2 := hSw.1.cell2; have d0 := hSw.2.cell0; have d1 := hSw.2.cell1; have d2 := hSw.2.cell2; simp only at c0 c1 c2 d0 d1 d2; go_simp
          first | done | with_reducible rfl
        skip
        refine wpAnyH_ready (rs := [4]) (by as_aux_lemma => kernel_rfl) (by simp) ?_
        refine AllReadyH.cons rfl (fun K hK => ?_) AllReadyH.nil
        go_simp
        go_wp2_with (have y0 := b8.drew; go_at_call 12; refine (HT2.out _).mono ?_; rintro e v1 ⟨rfl, p1⟩; have y1 := y0.trans (p1.mono y0.size))
        refine hK.out _ _ ?_ (fun hS => ?_)
        · exact ⟨hS.1.below p1, hS.2.below p1⟩
        clear hK K
        refine wpAnyH_ready (rs := [6]) (by as_aux_lemma => kernel_rfl) (by simp) ?_
        refine AllReadyH.cons rfl (fun K hK => ?_) AllReadyH.nil
        go_simp
        go_wp2_with (go_at_call 12; refine (HT1.out _).mono ?_; rintro e v2 ⟨rfl, p2⟩; have y2 := y1.trans (p2.mono y1.size))
        refine hK.out _ _ ?_ (fun hS => ?_)
        · exact ⟨hS.1.below p2, hS.2.below p2⟩
        clear hK K
        refine wpAnyH_take_at (i := 7) (some 68) (v := ?_) rfl rfl (by as_aux_lemma => kernel_rfl) (by as_aux_lemma => kernel_rfl) (by as_aux_lemma => kernel_rfl) (fun _ _ _ h => h) (Or.inl ⟨by kernel_rfl, ?_⟩) hS ?_
        rotate_left
        · intro w hSw; have c0 := hSw.1.cell0; have c1 := hSw.1.cell1; have c2 := hSw.1.cell2; have d0 := hSw.2.cell0; have d1 := hSw.2.cell1; have d2 := hSw.2.cell2; simp only at c0 c1 c2 d0 d1 d2; go_simp
          first | done | with_reducible rfl
        skip
        refine wpAnyH_take_at (i := 8) (some 69) (v := ?_) rfl rfl (by as_aux_lemma => kernel_rfl) (by as_aux_lemma => kernel_rfl) (by as_aux_lemma => kernel_rfl) (fun _ _ _ h => h) (Or.inl ⟨by kernel_rfl, ?_⟩) hS ?_
        rotate_left
        · intro w hSw; have c0 := hSw.1.cell0; have c1 := hSw.1.cell1; have c2 := hSw.1.cell2; have d0 := hSw.2.cell0; have d1 := hSw.2.cell1; have d2 := hSw.2.cell2; simp only at c0 c1 c2 d0 d1 d2; go_simp
          first | done | with_reducible rfl
        skip
        refine wpAnyH_take_at (i := 9) (some 70) (v := ?_) rfl rfl (by as_aux_lemma => kernel_rfl) (by as_aux_lemma => kernel_rfl) (by as_aux_lemma => kernel_rfl) (fun _ _ _ h => h) (Or.inl ⟨by kernel_rfl, ?_⟩) hS ?_
        rotate_left
        · intro w hSw; have c0 := hSw.1.cell0; have c1 := hSw.1.cell1; have c2 := hSw.1.cell2; have d0 := hSw.2.cell0; have d1 := hSw.2.cell1; have d2 := hSw.2.cell2; simp only at c0 c1 c2 d0 d1 d2; go_simp
          first | done | with_reducible rfl
        skip
        refine wpAnyH_take_at (i := 10) (some 71) (v := ?_) rfl rfl (by as_aux_lemma => kernel_rfl) (by as_aux_lemma => kernel_rfl) (by as_aux_lemma => kernel_rfl) (fun _ _ _ h => h) (Or.inl ⟨by kernel_rfl, ?_⟩) hS ?_
        rotate_left
        · intro w hSw; have c0 := hSw.1.cell0; have c1 := hSw.1.cell1; have c2 := hSw.1.cell2; have d0 := hSw.2.cell0; have d1 := hSw.2.cell1; have d2 := hSw.2.cell2; simp only at c0 c1 c2 d0 d1 d2; go_simp
          first | done | with_reducible rfl
        skip
        refine wpAnyH_take_at (i := 11) (some 72) (v := ?_) rfl rfl (by as_aux_lemma => kernel_rfl) (by as_aux_lemma => kernel_rfl) (by as_aux_lemma => kernel_rfl) (fun _ _ _ h => h) (Or.inl ⟨by kernel_rfl, ?_⟩) hS ?_
        rotate_left
        · intro w hSw; have c0 := hSw.1.cell0; have c1 := hSw.1.cell1; have c2 := hSw.1.cell2; have d0 := hSw.2.cell0; have d1 := hSw.2.cell1; have d2 := hSw.2.cell2; simp only at c0 c1 c2 d0 d1 d2; go_simp
          first | done | with_reducible rfl
        skip
        refine wpAnyH_take_at (i := 12) (some 73) (v := ?_) rfl rfl (by as_aux_lemma => kernel_rfl) (by as_aux_lemma => kernel_rfl) (by as_aux_lemma => kernel_rfl) (fun _ _ _ h => h) (Or.inl ⟨by kernel_rfl, ?_⟩) hS ?_
        rotate_left
        · intro w hSw; have c0 := hSw.1.cell0; have c1 := hSw.1.cell1; have c2 := hSw.1.cell2; have d0 := hSw.2.cell0; have d1 := hSw.2.cell1; have d2 := hSw.2.cell2; simp only at c0 c1 c2 d0 d1 d2; go_simp
          first | done | with_reducible rfl
        skip
        refine wpAnyH_take_at (i := 13) (some 74) (v := ?_) rfl rfl (by as_aux_lemma => kernel_rfl) (by as_aux_lemma => kernel_rfl) (by as_aux_lemma => kernel_rfl) (fun _ _ _ h => h) (Or.inl ⟨by kernel_rfl, ?_⟩) hS ?_
        rotate_left
        · intro w hSw; have c0 := hSw.1.cell0; have c1 := hSw.1.cell1; have c2 := hSw.1.cell2; have d0 := hSw.2.cell0; have d1 := hSw.2.cell1; have d2 := hSw.2.cell2; simp only at c0 c1 c2 d0 d1 d2; go_simp
          first | done | with_reducible rfl
        skip
        refine wpAnyH_take_at (i := 14) (some 75) (v := ?_) rfl rfl (by as_aux_lemma => kernel_rfl) (by as_aux_lemma => kernel_rfl) (by as_aux_lemma => kernel_rfl) (fun _ _ _ h => h) (Or.inl ⟨by kernel_rfl, ?_⟩) hS ?_
        rotate_left
        · intro w hSw; have c0 := hSw.1.cell0; have c1 := hSw.1.cell1; have c2 := hSw.1.cell2; have d0 := hSw.2.cell0; have d1 := hSw.2.cell1; have d2 := hSw.2.cell2; simp only at c0 c1 c2 d0 d1 d2; go_simp
          first | done | with_reducible rfl
        skip
        refine wpAnyH_take_at (i := 15) (some 76) (v := ?_) rfl rfl (by as_aux_lemma => kernel_rfl) (by as_aux_lemma => kernel_rfl) (by as_aux_lemma => kernel_rfl) (fun _ _ _ h => h) (Or.inl ⟨by kernel_rfl, ?_⟩) hS ?_
        rotate_left
        · intro w hSw; have c0 := hSw.1.cell0; have c1 := hSw.1.cell1; have c2 := hSw.1.cell2; have d0 := hSw.2.cell0; have d1 := hSw.2.cell1; have d2 := hSw.2.cell2; simp only at c0 c1 c2 d0 d1 d2; go_simp
          first | done | with_reducible rfl
        skip
        refine wpAnyH_done (by kernel_rfl) ?_ _
        have HS2 := Lib.hid hS
        clear m8 x8 b8 y0 y1 p1 p2 HT1 HT2 hS
        go_simp
        go_wp2_with fail
        by_cases hsame : o' = o ∧ v' = v
        · obtain ⟨ho', hv'⟩ := hsame
          subst o'
          subst v'
          refine wp_region_any (by kernel_rfl) ?_
          change wpAny _ _ _ _ _ _ _ (World.drew _)
          have hS : (fun w' : World => MtBlk w' w.heap.size (n, o, v) ∧ MtBlk w' B7 (n, o, v)) v2.drew := HS2.out
          refine wpAny_of_held (S := fun w' => MtBlk w' w.heap.size (n, o, v) ∧ MtBlk w' B7 (n, o, v)) _ _ _ _ ?_
          refine wpAnyH_take_at (i := 0) (some 77) (v := ?_) rfl rfl (by as_aux_lemma => kernel_rfl) (by as_aux_lemma => kernel_rfl) (by as_aux_lemma => kernel_rfl) (fun _ _ _ h => h) (Or.inl ⟨by kernel_rfl, ?_⟩) hS ?_
          rotate_left
          · intro w hSw; have c0 := hSw.1.cell0; have c1 := hSw.1.cell1; have c2 := hSw.1.cell2; have d0 := hSw.2.cell0; have d1 := hSw.2.cell1; have d2 := hSw.2.cell2; simp only at c0 c1 c2 d0 d1 d2; go_simp
            first | done | with_reducible rfl
          skip
          refine wpAnyH_take_at (i := 1) (some 78) (v := ?_) rfl rfl (by as_aux_lemma => kernel_rfl) (by as_aux_lemma => kernel_rfl) (by as_aux_lemma => kernel_rfl) (fun _ _ _ h => h) (Or.inl ⟨by kernel_rfl, ?_⟩) hS ?_
          rotate_left
          · intro w hSw; have c0 := hSw.1.cell0; have c1 := hSw.1.cell1; have c2 := hSw.1.cell2; have d0 := hSw.2.cell0; have d1 := hSw.2.cell1; have d2 := hSw.2.cell2; simp only at c0 c1 c2 d0 d1 d2; go_simp
            first | done | with_reducible rfl
          skip
          refine wpAnyH_take_at (i := 2) (some 79) (v := ?_) rfl rfl (by as_aux_lemma => kernel_rfl) (by as_aux_lemma => kernel_rfl) (by as_aux_lemma => kernel_rfl) (fun _ _ _ h => h) (Or.inl ⟨by kernel_rfl, ?_⟩) hS ?_
          rotate_left
          · intro w hSw; have c0 := hSw.1.cell0; have c1 := hSw.1.cell1; have c2 := hSw.1.cell2; have d0 := hSw.2.cell0; have d1 := hSw.2.cell1; have d2 := hSw.2.cell2; simp only at c0 c1 c2 d0 d1 d2; go_simp
            first | done | with_reducible rfl
          skip
          refine wpAnyH_take_at (i := 3) (some 80) (v := ?_) rfl rfl (by as_aux_lemma => kernel_rfl) (by as_aux_lemma => kernel_rfl) (by as_aux_lemma => kernel_rfl) (fun _ _ _ h => h) (Or.inl ⟨by kernel_rfl, ?_⟩) hS ?_
          rotate_left
          · intro w hSw; have c0 := hSw.1.cell0; have c1 := hSw.1.cell1; have c2 := hSw.1.cell2; have d0 := hSw.2.cell0; have d1 := hSw.2.cell1; have d2 := hSw.2.cell2; simp only at c0 c1 c2 d0 d1 d2; go_simp
            first | done | with_reducible rfl
          skip
          refine wpAnyH_take_at (i := 4) (some 81) (v := ?_) rfl rfl (by as_aux_lemma => kernel_rfl) (by as_aux_lemma => kernel_rfl) (by as_aux_lemma => kernel_rfl) (fun _ _ _ h => h) (Or.inl ⟨by kernel_rfl, ?_⟩) hS ?_
          rotate_left
          · intro w hSw; have c0 := hSw.1.cell0; have c1 := hSw.1.cell1; have c2 := hSw.1.cell2; have d0 := hSw.2.cell0; have d1 := hSw.2.cell1; have d2 := hSw.2.cell2; simp only at c0 c1 c2 d0 d1 d2; go_simp
            first | done | with_reducible rfl
          skip
          refine wpAnyH_take_at (i := 5) (some 82) (v := ?_) rfl rfl (by as_aux_lemma => kernel_rfl) (by as_aux_lemma => kernel_rfl) (by as_aux_lemma => kernel_rfl) (fun _ _ _ h => h) (Or.inl ⟨by kernel_rfl, ?_⟩) hS ?_
          rotate_left
          · intro w hSw; have c0 := hSw.1.cell0; have c1 := hSw.1.cell1; have c2 := hSw.1.cell2; have d0 := hSw.2.cell0; have d1 := hSw.2.cell1; have d2 := hSw.2.cell2; simp only at c0 c1 c2 d0 d1 d2; go_simp
            first | done | with_reducible rfl
          skip
          refine wpAnyH_take_at (i := 7) (some 84) (v := ?_) rfl rfl (by as_aux_lemma => kernel_rfl) (by as_aux_lemma => kernel_rfl) (by as_aux_lemma => kernel_rfl) (fun _ _ _ h => h) (Or.inl ⟨by kernel_rfl, ?_⟩) hS ?_
          rotate_left
          · intro w hSw; have c0 := hSw.1.cell0; have c1 := hSw.1.cell1; have c2 := hSw.1.cell2; have d0 := hSw.2.cell0; have d1 := hSw.2.cell1; have d2 := hSw.2.cell2; simp only at c0 c1 c2 d0 d1 d2; go_simp
            first | done | with_reducible rfl
          skip
          refine wpAnyH_take_at (i := 8) (some 85) (v := ?_) rfl rfl (by as_aux_lemma => kernel_rfl) (by as_aux_lemma => kernel_rfl) (by as_aux_lemma => kernel_rfl) (fun _ _ _ h => h) (Or.inl ⟨by kernel_rfl, ?_⟩) hS ?_
          rotate_left
          · intro w hSw; have c0 := hSw.1.cell0; have c1 := hSw.1.cell1; have c2 := hSw.1.cell2; have d0 := hSw.2.cell0; have d1 := hSw.2.cell1; have d2 := hSw.2.cell2; simp only at c0 c1 c2 d0 d1 d2; go_simp
            first | done | with_reducible rfl
          skip
          refine wpAnyH_ready (rs := [6]) (by as_aux_lemma => kernel_rfl) (by simp) ?_
          refine AllReadyH.cons rfl (fun K hK => ?_) AllReadyH.nil
          go_simp
          go_wp2_with (have y2 := y2.drew; go_at_call 16; refine (HO.out _ y2).mono ?_; rintro e v3 ⟨rfl, p3⟩; have y3 := y2.trans (p3.mono y2.size))
          refine hK.out _ _ ?_ (fun hS => ?_)
          · exact ⟨hS.1.below p3, hS.2.below p3⟩
          clear hK K
          refine wpAnyH_ready (rs := [9]) (by as_aux_lemma => kernel_rfl) (by simp) ?_
          refine AllReadyH.cons rfl (fun K hK => ?_) AllReadyH.nil
          go_simp
          go_wp2_with (go_at_call 16; refine (HO.out _ y3).mono ?_; rintro e v4 ⟨rfl, p4⟩; have y4 := y3.trans (p4.mono y3.size))
          refine hK.out _ _ ?_ (fun hS => ?_)
          · exact ⟨hS.1.below p4, hS.2.below p4⟩
          clear hK K
          refine wpAnyH_take_at (i := 10) (some 87) (v := ?_) rfl rfl (by as_aux_lemma => kernel_rfl) (by as_aux_lemma => kernel_rfl) (by as_aux_lemma => kernel_rfl) (fun _ _ _ h => h) (Or.inl ⟨by kernel_rfl, ?_⟩) hS ?_
          rotate_left
          · intro w hSw; have c0 := hSw.1.cell0; have c1 := hSw.1.cell1; have c2 := hSw.1.cell2; have d0 := hSw.2.cell0; have d1 := hSw.2.cell1; have d2 := hSw.2.cell2; simp only at c0 c1 c2 d0 d1 d2; go_simp
            first | done | with_reducible rfl
          skip
          refine wpAnyH_take_at (i := 11) (some 88) (v := ?_) rfl rfl (by as_aux_lemma => kernel_rfl) (by as_aux_lemma => kernel_rfl) (by as_aux_lemma => kernel_rfl) (fun _ _ _ h => h) (Or.inl ⟨by kernel_rfl, ?_⟩) hS ?_
          rotate_left
          · intro w hSw; have c0 := hSw.1.cell0; have c1 := hSw.1.cell1; have c2 := hSw.1.cell2; have d0 := hSw.2.cell0; have d1 := hSw.2.cell1; have d2 := hSw.2.cell2; simp only at c0 c1 c2 d0 d1 d2; go_simp
            first | done | with_reducible rfl
          skip
          refine wpAnyH_take_at (i := 12) (some 89) (v := ?_) rfl rfl (by as_aux_lemma => kernel_rfl) (by as_aux_lemma => kernel_rfl) (by as_aux_lemma => kernel_rfl) (fun _ _ _ h => h) (Or.inl ⟨by kernel_rfl, ?_⟩) hS ?_
          rotate_left
          · intro w hSw; have c0 := hSw.1.cell0; have c1 := hSw.1.cell1; have c2 := hSw.1.cell2; have d0 := hSw.2.cell0; have d1 := hSw.2.cell1; have d2 := hSw.2.cell2; simp only at c0 c1 c2 d0 d1 d2; go_simp
            first | done | with_reducible rfl
          skip
          refine wpAnyH_ready (rs := [13]) (by as_aux_lemma => kernel_rfl) (by simp) ?_
          refine AllReadyH.cons rfl (fun K hK => ?_) AllReadyH.nil
          go_simp
          go_wp2_with (go_at_call 9; refine (HW2.out _ y4).mono ?_; rintro e v5 ⟨rfl, p5⟩; have y5 := y4.trans (p5.mono y4.size))
          refine hK.out _ _ ?_ (fun hS => ?_)
          · exact ⟨hS.1.below p5, hS.2.below p5⟩
          clear hK K
          refine wpAnyH_take_at (i := 14) (some 91) (v := ?_) rfl rfl (by as_aux_lemma => kernel_rfl) (by as_aux_lemma => kernel_rfl) (by as_aux_lemma => kernel_rfl) (fun _ _ _ h => h) (Or.inl ⟨by kernel_rfl, ?_⟩) hS ?_
          rotate_left
          · intro w hSw; have c0 := hSw.1.cell0; have c1 := hSw.1.cell1; have c2 := hSw.1.cell2; have d0 := hSw.2.cell0; have d1 := hSw.2.cell1; have d2 := hSw.2.cell2; simp only at c0 c1 c2 d0 d1 d2; go_simp
            first | done | with_reducible rfl
          skip
          refine wpAnyH_take_at (i := 15) (some 6) (v := ?_) rfl rfl (by as_aux_lemma => kernel_rfl) (by as_aux_lemma => kernel_rfl) (by as_aux_lemma => kernel_rfl) (fun _ _ _ h => h) (Or.inl ⟨by kernel_rfl, ?_⟩) hS ?_
          rotate_left
          · intro w hSw; have c0 := hSw.1.cell0; have c1 := hSw.1.cell1; have c2 := hSw.1.cell2; have d0 := hSw.2.cell0; have d1 := hSw.2.cell1; have d2 := hSw.2.cell2; simp only at c0 c1 c2 d0 d1 d2; go_simp
            first | done | with_reducible rfl
          skip
          refine wpAnyH_done (by kernel_rfl) ?_ _
          clear hS HS2
          go_simp
          go_wp2
          go_ret
          exact ⟨rfl, y5⟩
        · have HNE : Hid (¬ ((o' : Int) = (o : Int) ∧ v'.toList = v.toList)) := Lib.hid fun hk => hsame ⟨by omega, data_ext (by simpa [ByteArray.toList_eq] using hk.2)⟩
          refine wp_region_any (by kernel_rfl) ?_
          change wpAny _ _ _ _ _ _ _ (World.drew _)
          have hS : (fun w' : World => MtBlk w' w.heap.size (n, o, v) ∧ MtBlk w' B7 (n, o', v')) v2.drew := HS2.out
          refine wpAny_of_held (S := fun w' => MtBlk w' w.heap.size (n, o, v) ∧ MtBlk w' B7 (n, o', v')) _ _ _ _ ?_
          refine wpAnyH_take_at (i := 0) (some 77) (v := ?_) rfl rfl (by as_aux_lemma => kernel_rfl) (by as_aux_lemma => kernel_rfl) (by as_aux_lemma => kernel_rfl) (fun _ _ _ h => h) (Or.inl ⟨by kernel_rfl, ?_⟩) hS ?_
          rotate_left
          · intro w hSw; have c0 := hSw.1.cell0; have c1 := hSw.1.cell1; have c2 := hSw.1.cell2; have d0 := hSw.2.cell0; have d1 := hSw.2.cell1; have d2 := hSw.2.cell2; simp only at c0 c1 c2 d0 d1 d2; go_simp
            first | done | with_reducible rfl
          skip
          refine wpAnyH_take_at (i := 1) (some 78) (v := ?_) rfl rfl (by as_aux_lemma => kernel_rfl) (by as_aux_lemma => kernel_rfl) (by as_aux_lemma => kernel_rfl) (fun _ _ _ h => h) (Or.inl ⟨by kernel_rfl, ?_⟩) hS ?_
          rotate_left
          · intro w hSw; have c0 := hSw.1.cell0; have c1 := hSw.1.cell1; have c2 := hSw.1.cell2; have d0 := hSw.2.cell0; have d1 := hSw.2.cell1; have d2 := hSw.2.cell2; simp only at c0 c1 c2 d0 d1 d2; go_simp
            first | done | with_reducible rfl
          skip
          refine wpAnyH_take_at (i := 2) (some 79) (v := .bool true) rfl rfl (by as_aux_lemma => kernel_rfl) (by as_aux_lemma => kernel_rfl) (by as_aux_lemma => kernel_rfl) (fun _ _ _ h => h) (Or.inl ⟨by kernel_rfl, ?_⟩) hS ?_
          · intro w hSw; have c0 := hSw.1.cell0; have c1 := hSw.1.cell1; have c2 := hSw.1.cell2; have d0 := hSw.2.cell0; have d1 := hSw.2.cell1; have d2 := hSw.2.cell2; simp only at c0 c1 c2 d0 d1 d2; go_simp
            exact fun k1 k2 => HNE.out ⟨k1, k2⟩
          refine wpAnyH_take_at (i := 3) (some 80) (v := ?_) rfl rfl (by as_aux_lemma => kernel_rfl) (by as_aux_lemma => kernel_rfl) (by as_aux_lemma => kernel_rfl) (fun _ _ _ h => h) (Or.inl ⟨by kernel_rfl, ?_⟩) hS ?_
          rotate_left
          · intro w hSw; have c0 := hSw.1.cell0; have c1 := hSw.1.cell1; have c2 := hSw.1.cell2; have d0 := hSw.2.cell0; have d1 := hSw.2.cell1; have d2 := hSw.2.cell2; simp only at c0 c1 c2 d0 d1 d2; go_simp
            first | done | with_reducible rfl
          skip
          refine wpAnyH_take_at (i := 4) (some 81) (v := undef) rfl rfl (by as_aux_lemma => kernel_rfl) (by as_aux_lemma => kernel_rfl) (by as_aux_lemma => kernel_rfl) (fun _ _ _ h => h) (Or.inr ⟨by kernel_rfl, rfl⟩) hS ?_
          skip
          refine wpAnyH_take_at (i := 5) (some 82) (v := undef) rfl rfl (by as_aux_lemma => kernel_rfl) (by as_aux_lemma => kernel_rfl) (by as_aux_lemma => kernel_rfl) (fun _ _ _ h => h) (Or.inr ⟨by kernel_rfl, rfl⟩) hS ?_
          skip
          refine wpAnyH_take_at (i := 6) (some 83) (v := undef) rfl rfl (by as_aux_lemma => kernel_rfl) (by as_aux_lemma => kernel_rfl) (by as_aux_lemma => kernel_rfl) (fun _ _ _ h => h) (Or.inr ⟨by kernel_rfl, rfl⟩) hS ?_
          skip
          refine wpAnyH_take_at (i := 7) (some 84) (v := undef) rfl rfl (by as_aux_lemma => kernel_rfl) (by as_aux_lemma => kernel_rfl) (by as_aux_lemma => kernel_rfl) (fun _ _ _ h => h) (Or.inr ⟨by kernel_rfl, rfl⟩) hS ?_
          skip
          refine wpAnyH_take_at (i := 8) (some 85) (v := undef) rfl rfl (by as_aux_lemma => kernel_rfl) (by as_aux_lemma => kernel_rfl) (by as_aux_lemma => kernel_rfl) (fun _ _ _ h => h) (Or.inr ⟨by kernel_rfl, rfl⟩) hS ?_
          skip
          refine wpAnyH_take_at (i := 9) (some 86) (v := undef) rfl rfl (by as_aux_lemma => kernel_rfl) (by as_aux_lemma => kernel_rfl) (by as_aux_lemma => kernel_rfl) (fun _ _ _ h => h) (Or.inr ⟨by kernel_rfl, rfl⟩) hS ?_
          skip
          refine wpAnyH_take_at (i := 10) (some 87) (v := undef) rfl rfl (by as_aux_lemma => kernel_rfl) (by as_aux_lemma => kernel_rfl) (by as_aux_lemma => kernel_rfl) (fun _ _ _ h => h) (Or.inr ⟨by kernel_rfl, rfl⟩) hS ?_
          skip
          refine wpAnyH_take_at (i := 11) (some 88) (v := ?_) rfl rfl (by as_aux_lemma => kernel_rfl) (by as_aux_lemma => kernel_rfl) (by as_aux_lemma => kernel_rfl) (fun _ _ _ h => h) (Or.inl ⟨by kernel_rfl, ?_⟩) hS ?_
          rotate_left
          · intro w hSw; have c0 := hSw.1.cell0; have c1 := hSw.1.cell1; have c2 := hSw.1.cell2; have d0 := hSw.2.cell0; have d1 := hSw.2.cell1; have d2 := hSw.2.cell2; simp only at c0 c1 c2 d0 d1 d2; go_simp
            first | done | with_reducible rfl
          skip
          refine wpAnyH_take_at (i := 12) (some 89) (v := ?_) rfl rfl (by as_aux_lemma => kernel_rfl) (by as_aux_lemma => kernel_rfl) (by as_aux_lemma => kernel_rfl) (fun _ _ _ h => h) (Or.inl ⟨by kernel_rfl, ?_⟩) hS ?_
          rotate_left
          · intro w hSw; have c0 := hSw.1.cell0; have c1 := hSw.1.cell1; have c2 := hSw.1.cell2; have d0 := hSw.2.cell0; have d1 := hSw.2.cell1; have d2 := hSw.2.cell2; simp only at c0 c1 c2 d0 d1 d2; go_simp
            first | done | with_reducible rfl
          skip
          refine wpAnyH_ready (rs := [13]) (by as_aux_lemma => kernel_rfl) (by simp) ?_
          refine AllReadyH.cons rfl (fun K hK => ?_) AllReadyH.nil
          go_simp
          go_wp2_with (have y2 := y2.drew; go_at_call 9; refine (HW2.out _ y2).mono ?_; rintro e v3 ⟨rfl, p3⟩; have y3 := y2.trans (p3.mono y2.size))
          refine hK.out _ _ ?_ (fun hS => ?_)
          · exact ⟨hS.1.below p3, hS.2.below p3⟩
          clear hK K
          refine wpAnyH_take_at (i := 14) (some 91) (v := ?_) rfl rfl (by as_aux_lemma => kernel_rfl) (by as_aux_lemma => kernel_rfl) (by as_aux_lemma => kernel_rfl) (fun _ _ _ h => h) (Or.inl ⟨by kernel_rfl, ?_⟩) hS ?_
          rotate_left
          · intro w hSw; have c0 := hSw.1.cell0; have c1 := hSw.1.cell1; have c2 := hSw.1.cell2; have d0 := hSw.2.cell0; have d1 := hSw.2.cell1; have d2 := hSw.2.cell2; simp only at c0 c1 c2 d0 d1 d2; go_simp
            first | done | with_reducible rfl
          skip
          refine wpAnyH_take_at (i := 15) (some 6) (v := ?_) rfl rfl (by as_aux_lemma => kernel_rfl) (by as_aux_lemma => kernel_rfl) (by as_aux_lemma => kernel_rfl) (fun _ _ _ h => h) (Or.inl ⟨by kernel_rfl, ?_⟩) hS ?_
          rotate_left
          · intro w hSw; have c0 := hSw.1.cell0; have c1 := hSw.1.cell1; have c2 := hSw.1.cell2; have d0 := hSw.2.cell0; have d1 := hSw.2.cell1; have d2 := hSw.2.cell2; simp only at c0 c1 c2 d0 d1 d2; go_simp
            first | done | with_reducible rfl
          skip
          refine wpAnyH_done (by kernel_rfl) ?_ _
          clear hS HS2
          go_simp
          go_wp2
          go_ret
          exact ⟨rfl, y3⟩
      · have HC1 := Lib.hid (HC.out (n, o, v) _ b5)
        simp only at HC1
        generalize mErr (n, o, v) = E at *
        go_wp2_with (go_at_call 15; refine HC1.out.mono ?_; rintro e w6 ⟨rfl, q6⟩; refine Hid.out ?_)
        refine Lib.hid ?_
        have b6 := b5.trans (q6.mono b5.size)
        clear q6 HC1
        have HW3 := Lib.hid (HW2.out w6 b6)
        go_wp2_with (go_at_call 9; refine HW3.out.mono ?_; rintro e w7 ⟨rfl, q7⟩)
        go_ret
        exact ⟨rfl, b6.trans (q7.mono b6.size)⟩
    · have HF := Lib.hid hno
      clear hno
      go_wp2_with (go_at_call 10; refine HR1.out.mono ?_; rintro e w2 ⟨hr, q2⟩; obtain rfl := reads_no hr HF.out; clear hr; refine Hid.out ?_)
      refine Lib.hid ?_
      have b2 := b1.trans (q2.mono b1.size)
      have m2 := m1.below q2
      clear q2 HR1 b1 m1 HF
      have b5 := b2.alloc b2.size (.cells #[.string ⟨#[]⟩, .int .u8 0, .string ⟨#[]⟩] 24)
      have m5 : MtBlk (w2.alloc (.cells #[.string ⟨#[]⟩, .int .u8 0, .string ⟨#[]⟩] 24)) w.heap.size (n, o, v) := m2.below ((Below.refl _ _).alloc (Nat.le_refl _) _)
      have c0 := m5.cell0
      have c1 := m5.cell1
      have c2 := m5.cell2
      simp only at c0 c1 c2
      clear b2 m2
      go_wp2_with fail
      generalize w2.alloc (.cells #[.string ⟨#[]⟩, .int .u8 0, .string ⟨#[]⟩] 24) = w5 at *
      generalize w2.heap.size = B2 at *
      clear c0 c1 c2
      by_cases hE : mErr (n, o, v) = 0
      · obtain ⟨⟨n', o', v'⟩, hf', hnm⟩ := first_back hE
        simp only at hnm
        subst n'
        have hsz : (n.size ≤ 16 ∧ v.size ≤ 64) ∧ v'.size ≤ 64 := by
          obtain ⟨⟨⟨-, k1⟩, -⟩, -, k2, -⟩ := mErr_zero hE
          obtain ⟨-, -, k4, -⟩ := mErr_zero hf'.1
          exact ⟨⟨k1, k2⟩, k4⟩
        have HT1 := Lib.hid (fun u => HX.out (n, o, v) u (by have := hsz; simp only; omega))
        have HT2 := Lib.hid (fun u => HX.out (n, o', v') u (by have := hsz; simp only; omega))
        have HR2 := Lib.hid (fun u hb => HR.out (textM (n, o, v)) u hb (by
          have h1 := text_size (n, o, v)
          have h2 : (signL o).size ≤ 2 := by unfold signL; split <;> (try split) <;> (try split) <;> (try split) <;> decide
          have := hsz
          simp only at h1
          omega))
        simp only [hf'.2.1] at HT1 HT2
        have HF' := Lib.hid hf'
        clear hf' hsz
        generalize textM (n, o, v) = T at *
        have HC1 := Lib.hid (HC.out (n, o, v) _ b5)
        simp only [hE] at HC1
        clear hE HC HX HR
        go_wp2_with (go_at_call 15; refine HC1.out.mono ?_; rintro e w6 ⟨rfl, q6⟩; refine Hid.out ?_)
        refine Lib.hid ?_
        have b6 := b5.trans (q6.mono b5.size)
        have m6 := m5.below q6
        clear q6 HC1 b5 m5
        have c0 := m6.cell0
        have c1 := m6.cell1
        have c2 := m6.cell2
        simp only at c0 c1 c2
        go_wp2_with (go_at_call 12; refine (HT1.out _).mono ?_; rintro e w7' ⟨rfl, q7⟩; refine Hid.out ?_)
        refine Lib.hid ?_
        have b7' := b6.trans (q7.mono b6.size)
        have m7' := m6.below q7
        clear q7 c0 c1 c2 b6 m6
        have HR3 := Lib.hid (HR2.out w7' b7')
        go_wp2_with (go_at_call 10; refine HR3.out.mono ?_; rintro e w7 ⟨hr, q7⟩; obtain rfl := reads_yes hr HF'.out; clear hr; refine Hid.out ?_)
        refine Lib.hid ?_
        have b7 := b7'.trans (q7.mono b7'.size)
        have m7 := m7'.below q7
        clear q7 b7' m7' HR3 HR2 HF'
        have b8 := b7.alloc b7.size (.cells #[.string n, .int .u8 (o' : Int), .string v'] 24)
        have m8 : MtBlk (w7.alloc (.cells #[.string n, .int .u8 (o' : Int), .string v'] 24)) w.heap.size (n, o, v) := m7.below ((Below.refl _ _).alloc (Nat.le_refl _) _)
        have x8 : MtBlk (w7.alloc (.cells #[.string n, .int .u8 (o' : Int), .string v'] 24)) w7.heap.size (n, o', v') := heap_new w7 _
        clear b7 m7
        go_wp2_with fail
        generalize w7.alloc (.cells #[.string n, .int .u8 (o' : Int), .string v'] 24) = w8 at *
        generalize w7.heap.size = B7 at *
        refine wp_region_any (by kernel_rfl) ?_
        change wpAny _ _ _ _ _ _ _ (World.drew _)
        have hS : (fun w' : World => MtBlk w' w.heap.size (n, o, v) ∧ MtBlk w' B7 (n, o', v')) w8.drew := ⟨m8, x8⟩
        refine wpAny_of_held (S := fun w' => MtBlk w' w.heap.size (n, o, v) ∧ MtBlk w' B7 (n, o', v')) _ _ _ _ ?_
        refine wpAnyH_take_at (i := 0) (some 61) (v := ?_) rfl rfl (by as_aux_lemma => kernel_rfl) (by as_aux_lemma => kernel_rfl) (by as_aux_lemma => kernel_rfl) (fun _ _ _ h => h) (Or.inl ⟨by kernel_rfl, ?_⟩) hS ?_
        rotate_left
        · intro w hSw; have c0 := hSw.1.cell0; have c1 := hSw.1.cell1; have c2 := hSw.1.cell2; have d0 := hSw.2.cell0; have d1 := hSw.2.cell1; have d2 := hSw.2.cell2; simp only at c0 c1 c2 d0 d1 d2; go_simp
          first | done | with_reducible rfl
        skip
        refine wpAnyH_take_at (i := 1) (some 62) (v := ?_) rfl rfl (by as_aux_lemma => kernel_rfl) (by as_aux_lemma => kernel_rfl) (by as_aux_lemma => kernel_rfl) (fun _ _ _ h => h) (Or.inl ⟨by kernel_rfl, ?_⟩) hS ?_
        rotate_left
        · intro w hSw; have c0 := hSw.1.cell0; have c1 := hSw.1.cell1; have c2 := hSw.1.cell2; have d0 := hSw.2.cell0; have d1 := hSw.2.cell1; have d2 := hSw.2.cell2; simp only at c0 c1 c2 d0 d1 d2; go_simp
          first | done | with_reducible rfl
        skip
        refine wpAnyH_take_at (i := 2) (some 63) (v := ?_) rfl rfl (by as_aux_lemma => kernel_rfl) (by as_aux_lemma => kernel_rfl) (by as_aux_lemma => kernel_rfl) (fun _ _ _ h => h) (Or.inl ⟨by kernel_rfl, ?_⟩) hS ?_
        rotate_left
        · intro w hSw; have c0 := hSw.1.cell0; have c1 := hSw.1.cell1; have c2 := hSw.1.cell2; have d0 := hSw.2.cell0; have d1 := hSw.2.cell1; have d2 := hSw.2.cell2; simp only at c0 c1 c2 d0 d1 d2; go_simp
          first | done | with_reducible rfl
        skip
        refine wpAnyH_take_at (i := 3) (some 64) (v := ?_) rfl rfl (by as_aux_lemma => kernel_rfl) (by as_aux_lemma => kernel_rfl) (by as_aux_lemma => kernel_rfl) (fun _ _ _ h => h) (Or.inl ⟨by kernel_rfl, ?_⟩) hS ?_
        rotate_left
        · intro w hSw; have c0 := hSw.1.cell0; have c1 := hSw.1.cell1; have c2 := hSw.1.cell2; have d0 := hSw.2.cell0; have d1 := hSw.2.cell1; have d2 := hSw.2.cell2; simp only at c0 c1 c2 d0 d1 d2; go_simp
          first | done | with_reducible rfl
        skip
        refine wpAnyH_take_at (i := 5) (some 66) (v := ?_) rfl rfl (by as_aux_lemma => kernel_rfl) (by as_aux_lemma => kernel_rfl) (by as_aux_lemma => kernel_rfl) (fun _ _ _ h => h) (Or.inl ⟨by kernel_rfl, ?_⟩) hS ?_
        rotate_left
        · intro w hSw; have c0 := hSw.1.cell0; have c1 := hSw.1.cell1; have c2 := hSw.1.cell2; have d0 := hSw.2.cell0; have d1 := hSw.2.cell1; have d2 := hSw.2.cell2; simp only at c0 c1 c2 d0 d1 d2; go_simp
          first | done | with_reducible rfl
        skip
        refine wpAnyH_ready (rs := [4]) (by as_aux_lemma => kernel_rfl) (by simp) ?_
        refine AllReadyH.cons rfl (fun K hK => ?_) AllReadyH.nil
        go_simp
        go_wp2_with (have y0 := b8.drew; go_at_call 12; refine (HT2.out _).mono ?_; rintro e v1 ⟨rfl, p1⟩; have y1 := y0.trans (p1.mono y0.size))
        refine hK.out _ _ ?_ (fun hS => ?_)
        · exact ⟨hS.1.below p1, hS.2.below p1⟩
        clear hK K
        refine wpAnyH_ready (rs := [6]) (by as_aux_lemma => kernel_rfl) (by simp) ?_
        refine AllReadyH.cons rfl (fun K hK => ?_) AllReadyH.nil
        go_simp
        go_wp2_with (go_at_call 12; refine (HT1.out _).mono ?_; rintro e v2 ⟨rfl, p2⟩; have y2 := y1.trans (p2.mono y1.size))
        refine hK.out _ _ ?_ (fun hS => ?_)
        · exact ⟨hS.1.below p2, hS.2.below p2⟩
        clear hK K
        refine wpAnyH_take_at (i := 7) (some 68) (v := ?_) rfl rfl (by as_aux_lemma => kernel_rfl) (by as_aux_lemma => kernel_rfl) (by as_aux_lemma => kernel_rfl) (fun _ _ _ h => h) (Or.inl ⟨by kernel_rfl, ?_⟩) hS ?_
        rotate_left
        · intro w hSw; have c0 := hSw.1.cell0; have c1 := hSw.1.cell1; have c2 := hSw.1.cell2; have d0 := hSw.2.cell0; have d1 := hSw.2.cell1; have d2 := hSw.2.cell2; simp only at c0 c1 c2 d0 d1 d2; go_simp
          first | done | with_reducible rfl
        skip
        refine wpAnyH_take_at (i := 8) (some 69) (v := ?_) rfl rfl (by as_aux_lemma => kernel_rfl) (by as_aux_lemma => kernel_rfl) (by as_aux_lemma => kernel_rfl) (fun _ _ _ h => h) (Or.inl ⟨by kernel_rfl, ?_⟩) hS ?_
        rotate_left
        · intro w hSw; have c0 := hSw.1.cell0; have c1 := hSw.1.cell1; have c2 := hSw.1.cell2; have d0 := hSw.2.cell0; have d1 := hSw.2.cell1; have d2 := hSw.2.cell2; simp only at c0 c1 c2 d0 d1 d2; go_simp
          first | done | with_reducible rfl
        skip
        refine wpAnyH_take_at (i := 9) (some 70) (v := ?_) rfl rfl (by as_aux_lemma => kernel_rfl) (by as_aux_lemma => kernel_rfl) (by as_aux_lemma => kernel_rfl) (fun _ _ _ h => h) (Or.inl ⟨by kernel_rfl, ?_⟩) hS ?_
        rotate_left
        · intro w hSw; have c0 := hSw.1.cell0; have c1 := hSw.1.cell1; have c2 := hSw.1.cell2; have d0 := hSw.2.cell0; have d1 := hSw.2.cell1; have d2 := hSw.2.cell2; simp only at c0 c1 c2 d0 d1 d2; go_simp
          first | done | with_reducible rfl
        skip
        refine wpAnyH_take_at (i := 10) (some 71) (v := ?_) rfl rfl (by as_aux_lemma => kernel_rfl) (by as_aux_lemma => kernel_rfl) (by as_aux_lemma => kernel_rfl) (fun _ _ _ h => h) (Or.inl ⟨by kernel_rfl, ?_⟩) hS ?_
        rotate_left
        · intro w hSw; have c0 := hSw.1.cell0; have c1 := hSw.1.cell1; have c2 := hSw.1.cell2; have d0 := hSw.2.cell0; have d1 := hSw.2.cell1; have d2 := hSw.2.cell2; simp only at c0 c1 c2 d0 d1 d2; go_simp
          first | done | with_reducible rfl
        skip
        refine wpAnyH_take_at (i := 11) (some 72) (v := ?_) rfl rfl (by as_aux_lemma => kernel_rfl) (by as_aux_lemma => kernel_rfl) (by as_aux_lemma => kernel_rfl) (fun _ _ _ h => h) (Or.inl ⟨by kernel_rfl, ?_⟩) hS ?_
        rotate_left
        · intro w hSw; have c0 := hSw.1.cell0; have c1 := hSw.1.cell1; have c2 := hSw.1.cell2; have d0 := hSw.2.cell0; have d1 := hSw.2.cell1; have d2 := hSw.2.cell2; simp only at c0 c1 c2 d0 d1 d2; go_simp
          first | done | with_reducible rfl
        skip
        refine wpAnyH_take_at (i := 12) (some 73) (v := ?_) rfl rfl (by as_aux_lemma => kernel_rfl) (by as_aux_lemma => kernel_rfl) (by as_aux_lemma => kernel_rfl) (fun _ _ _ h => h) (Or.inl ⟨by kernel_rfl, ?_⟩) hS ?_
        rotate_left
        · intro w hSw; have c0 := hSw.1.cell0; have c1 := hSw.1.cell1; have c2 := hSw.1.cell2; have d0 := hSw.2.cell0; have d1 := hSw.2.cell1; have d2 := hSw.2.cell2; simp only at c0 c1 c2 d0 d1 d2; go_simp
          first | done | with_reducible rfl
        skip
        refine wpAnyH_take_at (i := 13) (some 74) (v := ?_) rfl rfl (by as_aux_lemma => kernel_rfl) (by as_aux_lemma => kernel_rfl) (by as_aux_lemma => kernel_rfl) (fun _ _ _ h => h) (Or.inl ⟨by kernel_rfl, ?_⟩) hS ?_
        rotate_left
        · intro w hSw; have c0 := hSw.1.cell0; have c1 := hSw.1.cell1; have c2 := hSw.1.cell2; have d0 := hSw.2.cell0; have d1 := hSw.2.cell1; have d2 := hSw.2.cell2; simp only at c0 c1 c2 d0 d1 d2; go_simp
          first | done | with_reducible rfl
        skip
        refine wpAnyH_take_at (i := 14) (some 75) (v := ?_) rfl rfl (by as_aux_lemma => kernel_rfl) (by as_aux_lemma => kernel_rfl) (by as_aux_lemma => kernel_rfl) (fun _ _ _ h => h) (Or.inl ⟨by kernel_rfl, ?_⟩) hS ?_
        rotate_left
        · intro w hSw; have c0 := hSw.1.cell0; have c1 := hSw.1.cell1; have c2 := hSw.1.cell2; have d0 := hSw.2.cell0; have d1 := hSw.2.cell1; have d2 := hSw.2.cell2; simp only at c0 c1 c2 d0 d1 d2; go_simp
          first | done | with_reducible rfl
        skip
        refine wpAnyH_take_at (i := 15) (some 76) (v := ?_) rfl rfl (by as_aux_lemma => kernel_rfl) (by as_aux_lemma => kernel_rfl) (by as_aux_lemma => kernel_rfl) (fun _ _ _ h => h) (Or.inl ⟨by kernel_rfl, ?_⟩) hS ?_
        rotate_left
        · intro w hSw; have c0 := hSw.1.cell0; have c1 := hSw.1.cell1; have c2 := hSw.1.cell2; have d0 := hSw.2.cell0; have d1 := hSw.2.cell1; have d2 := hSw.2.cell2; simp only at c0 c1 c2 d0 d1 d2; go_simp
          first | done | with_reducible rfl
        skip
        refine wpAnyH_done (by kernel_rfl) ?_ _
        have HS2 := Lib.hid hS
        clear m8 x8 b8 y0 y1 p1 p2 HT1 HT2 hS
        go_simp
        go_wp2_with fail
        by_cases hsame : o' = o ∧ v' = v
        · obtain ⟨ho', hv'⟩ := hsame
          subst o'
          subst v'
          refine wp_region_any (by kernel_rfl) ?_
          change wpAny _ _ _ _ _ _ _ (World.drew _)
          have hS : (fun w' : World => MtBlk w' w.heap.size (n, o, v) ∧ MtBlk w' B7 (n, o, v)) v2.drew := HS2.out
          refine wpAny_of_held (S := fun w' => MtBlk w' w.heap.size (n, o, v) ∧ MtBlk w' B7 (n, o, v)) _ _ _ _ ?_
          refine wpAnyH_take_at (i := 0) (some 77) (v := ?_) rfl rfl (by as_aux_lemma => kernel_rfl) (by as_aux_lemma => kernel_rfl) (by as_aux_lemma => kernel_rfl) (fun _ _ _ h => h) (Or.inl ⟨by kernel_rfl, ?_⟩) hS ?_
          rotate_left
          · intro w hSw; have c0 := hSw.1.cell0; have c1 := hSw.1.cell1; have c2 := hSw.1.cell2; have d0 := hSw.2.cell0; have d1 := hSw.2.cell1; have d2 := hSw.2.cell2; simp only at c0 c1 c2 d0 d1 d2; go_simp
            first | done | with_reducible rfl
          skip
          refine wpAnyH_take_at (i := 1) (some 78) (v := ?_) rfl rfl (by as_aux_lemma => kernel_rfl) (by as_aux_lemma => kernel_rfl) (by as_aux_lemma => kernel_rfl) (fun _ _ _ h => h) (Or.inl ⟨by kernel_rfl, ?_⟩) hS ?_
          rotate_left
          · intro w hSw; have c0 := hSw.1.cell0; have c1 := hSw.1.cell1; have c2 := hSw.1.cell2; have d0 := hSw.2.cell0; have d1 := hSw.2.cell1; have d2 := hSw.2.cell2; simp only at c0 c1 c2 d0 d1 d2; go_simp
            first | done | with_reducible rfl
          skip
          refine wpAnyH_take_at (i := 2) (some 79) (v := ?_) rfl rfl (by as_aux_lemma => kernel_rfl) (by as_aux_lemma => kernel_rfl) (by as_aux_lemma => kernel_rfl) (fun _ _ _ h => h) (Or.inl ⟨by kernel_rfl, ?_⟩) hS ?_
          rotate_left
          · intro w hSw; have c0 := hSw.1.cell0; have c1 := hSw.1.cell1; have c2 := hSw.1.cell2; have d0 := hSw.2.cell0; have d1 := hSw.2.cell1; have d2 := hSw.2.cell2; simp only at c0 c1 c2 d0 d1 d2; go_simp
            first | done | with_reducible rfl
          skip
          refine wpAnyH_take_at (i := 3) (some 80) (v := ?_) rfl rfl (by as_aux_lemma => kernel_rfl) (by as_aux_lemma => kernel_rfl) (by as_aux_lemma => kernel_rfl) (fun _ _ _ h => h) (Or.inl ⟨by kernel_rfl, ?_⟩) hS ?_
          rotate_left
          · intro w hSw; have c0 := hSw.1.cell0; have c1 := hSw.1.cell1; have c2 := hSw.1.cell2; have d0 := hSw.2.cell0; have d1 := hSw.2.cell1; have d2 := hSw.2.cell2; simp only at c0 c1 c2 d0 d1 d2; go_simp
            first | done | with_reducible rfl
          skip
          refine wpAnyH_take_at (i := 4) (some 81) (v := ?_) rfl rfl (by as_aux_lemma => kernel_rfl) (by as_aux_lemma => kernel_rfl) (by as_aux_lemma => kernel_rfl) (fun _ _ _ h => h) (Or.inl ⟨by kernel_rfl, ?_⟩) hS ?_
          rotate_left
          · intro w hSw; have c0 := hSw.1.cell0; have c1 := hSw.1.cell1; have c2 := hSw.1.cell2; have d0 := hSw.2.cell0; have d1 := hSw.2.cell1; have d2 := hSw.2.cell2; simp only at c0 c1 c2 d0 d1 d2; go_simp
            first | done | with_reducible rfl
          skip
          refine wpAnyH_take_at (i := 5) (some 82) (v := ?_) rfl rfl (by as_aux_lemma => kernel_rfl) (by as_aux_lemma => kernel_rfl) (by as_aux_lemma => kernel_rfl) (fun _ _ _ h => h) (Or.inl ⟨by kernel_rfl, ?_⟩) hS ?_
          rotate_left
          · intro w hSw; have c0 := hSw.1.cell0; have c1 := hSw.1.cell1; have c2 := hSw.1.cell2; have d0 := hSw.2.cell0; have d1 := hSw.2.cell1; have d2 := hSw.2.cell2; simp only at c0 c1 c2 d0 d1 d2; go_simp
            first | done | with_reducible rfl
          skip
          refine wpAnyH_take_at (i := 7) (some 84) (v := ?_) rfl rfl (by as_aux_lemma => kernel_rfl) (by as_aux_lemma => kernel_rfl) (by as_aux_lemma => kernel_rfl) (fun _ _ _ h => h) (Or.inl ⟨by kernel_rfl, ?_⟩) hS ?_
          rotate_left
          · intro w hSw; have c0 := hSw.1.cell0; have c1 := hSw.1.cell1; have c2 := hSw.1.cell2; have d0 := hSw.2.cell0; have d1 := hSw.2.cell1; have d2 := hSw.2.cell2; simp only at c0 c1 c2 d0 d1 d2; go_simp
            first | done | with_reducible rfl
          skip
          refine wpAnyH_take_at (i := 8) (some 85) (v := ?_) rfl rfl (by as_aux_lemma => kernel_rfl) (by as_aux_lemma => kernel_rfl) (by as_aux_lemma => kernel_rfl) (fun _ _ _ h => h) (Or.inl ⟨by kernel_rfl, ?_⟩) hS ?_
          rotate_left
          · intro w hSw; have c0 := hSw.1.cell0; have c1 := hSw.1.cell1; have c2 := hSw.1.cell2; have d0 := hSw.2.cell0; have d1 := hSw.2.cell1; have d2 := hSw.2.cell2; simp only at c0 c1 c2 d0 d1 d2; go_simp
            first | done | with_reducible rfl
          skip
          refine wpAnyH_ready (rs := [6]) (by as_aux_lemma => kernel_rfl) (by simp) ?_
          refine AllReadyH.cons rfl (fun K hK => ?_) AllReadyH.nil
          go_simp
          go_wp2_with (have y2 := y2.drew; go_at_call 16; refine (HO.out _ y2).mono ?_; rintro e v3 ⟨rfl, p3⟩; have y3 := y2.trans (p3.mono y2.size))
          refine hK.out _ _ ?_ (fun hS => ?_)
          · exact ⟨hS.1.below p3, hS.2.below p3⟩
          clear hK K
          refine wpAnyH_ready (rs := [9]) (by as_aux_lemma => kernel_rfl) (by simp) ?_
          refine AllReadyH.cons rfl (fun K hK => ?_) AllReadyH.nil
          go_simp
          go_wp2_with (go_at_call 16; refine (HO.out _ y3).mono ?_; rintro e v4 ⟨rfl, p4⟩; have y4 := y3.trans (p4.mono y3.size))
          refine hK.out _ _ ?_ (fun hS => ?_)
          · exact ⟨hS.1.below p4, hS.2.below p4⟩
          clear hK K
          refine wpAnyH_take_at (i := 10) (some 87) (v := ?_) rfl rfl (by as_aux_lemma => kernel_rfl) (by as_aux_lemma => kernel_rfl) (by as_aux_lemma => kernel_rfl) (fun _ _ _ h => h) (Or.inl ⟨by kernel_rfl, ?_⟩) hS ?_
          rotate_left
          · intro w hSw; have c0 := hSw.1.cell0; have c1 := hSw.1.cell1; have c2 := hSw.1.cell2; have d0 := hSw.2.cell0; have d1 := hSw.2.cell1; have d2 := hSw.2.cell2; simp only at c0 c1 c2 d0 d1 d2; go_simp
            first | done | with_reducible rfl
          skip
          refine wpAnyH_take_at (i := 11) (some 88) (v := ?_) rfl rfl (by as_aux_lemma => kernel_rfl) (by as_aux_lemma => kernel_rfl) (by as_aux_lemma => kernel_rfl) (fun _ _ _ h => h) (Or.inl ⟨by kernel_rfl, ?_⟩) hS ?_
          rotate_left
          · intro w hSw; have c0 := hSw.1.cell0; have c1 := hSw.1.cell1; have c2 := hSw.1.cell2; have d0 := hSw.2.cell0; have d1 := hSw.2.cell1; have d2 := hSw.2.cell2; simp only at c0 c1 c2 d0 d1 d2; go_simp
            first | done | with_reducible rfl
          skip
          refine wpAnyH_take_at (i := 12) (some 89) (v := ?_) rfl rfl (by as_aux_lemma => kernel_rfl) (by as_aux_lemma => kernel_rfl) (by as_aux_lemma => kernel_rfl) (fun _ _ _ h => h) (Or.inl ⟨by kernel_rfl, ?_⟩) hS ?_
          rotate_left
          · intro w hSw; have c0 := hSw.1.cell0; have c1 := hSw.1.cell1; have c2 := hSw.1.cell2; have d0 := hSw.2.cell0; have d1 := hSw.2.cell1; have d2 := hSw.2.cell2; simp only at c0 c1 c2 d0 d1 d2; go_simp
            first | done | with_reducible rfl
          skip
          refine wpAnyH_ready (rs := [13]) (by as_aux_lemma => kernel_rfl) (by simp) ?_
          refine AllReadyH.cons rfl (fun K hK => ?_) AllReadyH.nil
          go_simp
          go_wp2_with (go_at_call 9; refine (HW2.out _ y4).mono ?_; rintro e v5 ⟨rfl, p5⟩; have y5 := y4.trans (p5.mono y4.size))
          refine hK.out _ _ ?_ (fun hS => ?_)
          · exact ⟨hS.1.below p5, hS.2.below p5⟩
          clear hK K
          refine wpAnyH_take_at (i := 14) (some 91) (v := ?_) rfl rfl (by as_aux_lemma => kernel_rfl) (by as_aux_lemma => kernel_rfl) (by as_aux_lemma => kernel_rfl) (fun _ _ _ h => h) (Or.inl ⟨by kernel_rfl, ?_⟩) hS ?_
          rotate_left
          · intro w hSw; have c0 := hSw.1.cell0; have c1 := hSw.1.cell1; have c2 := hSw.1.cell2; have d0 := hSw.2.cell0; have d1 := hSw.2.cell1; have d2 := hSw.2.cell2; simp only at c0 c1 c2 d0 d1 d2; go_simp
            first | done | with_reducible rfl
          skip
          refine wpAnyH_take_at (i := 15) (some 6) (v := ?_) rfl rfl (by as_aux_lemma => kernel_rfl) (by as_aux_lemma => kernel_rfl) (by as_aux_lemma => kernel_rfl) (fun _ _ _ h => h) (Or.inl ⟨by kernel_rfl, ?_⟩) hS ?_
          rotate_left
          · intro w hSw; have c0 := hSw.1.cell0; have c1 := hSw.1.cell1; have c2 := hSw.1.cell2; have d0 := hSw.2.cell0; have d1 := hSw.2.cell1; have d2 := hSw.2.cell2; simp only at c0 c1 c2 d0 d1 d2; go_simp
            first | done | with_reducible rfl
          skip
          refine wpAnyH_done (by kernel_rfl) ?_ _
          clear hS HS2
          go_simp
          go_wp2
          go_ret
          exact ⟨rfl, y5⟩
        · have HNE : Hid (¬ ((o' : Int) = (o : Int) ∧ v'.toList = v.toList)) := Lib.hid fun hk => hsame ⟨by omega, data_ext (by simpa [ByteArray.toList_eq] using hk.2)⟩
          refine wp_region_any (by kernel_rfl) ?_
          change wpAny _ _ _ _ _ _ _ (World.drew _)
          have hS : (fun w' : World => MtBlk w' w.heap.size (n, o, v) ∧ MtBlk w' B7 (n, o', v')) v2.drew := HS2.out
          refine wpAny_of_held (S := fun w' => MtBlk w' w.heap.size (n, o, v) ∧ MtBlk w' B7 (n, o', v')) _ _ _ _ ?_
          refine wpAnyH_take_at (i := 0) (some 77) (v := ?_) rfl rfl (by as_aux_lemma => kernel_rfl) (by as_aux_lemma => kernel_rfl) (by as_aux_lemma => kernel_rfl) (fun _ _ _ h => h) (Or.inl ⟨by kernel_rfl, ?_⟩) hS ?_
          rotate_left
          · intro w hSw; have c0 := hSw.1.cell0; have c1 := hSw.1.cell1; have c2 := hSw.1.cell2; have d0 := hSw.2.cell0; have d1 := hSw.2.cell1; have d2 := hSw.2.cell2; simp only at c0 c1 c2 d0 d1 d2; go_simp
            first | done | with_reducible rfl
          skip
          refine wpAnyH_take_at (i := 1) (some 78) (v := ?_) rfl rfl (by as_aux_lemma => kernel_rfl) (by as_aux_lemma => kernel_rfl) (by as_aux_lemma => kernel_rfl) (fun _ _ _ h => h) (Or.inl ⟨by kernel_rfl, ?_⟩) hS ?_
          rotate_left
          · intro w hSw; have c0 := hSw.1.cell0; have c1 := hSw.1.cell1; have c2 := hSw.1.cell2; have d0 := hSw.2.cell0; have d1 := hSw.2.cell1; have d2 := hSw.2.cell2; simp only at c0 c1 c2 d0 d1 d2; go_simp
            first | done | with_reducible rfl
          skip
          refine wpAnyH_take_at (i := 2) (some 79) (v := .bool true) rfl rfl (by as_aux_lemma => kernel_rfl) (by as_aux_lemma => kernel_rfl) (by as_aux_lemma => kernel_rfl) (fun _ _ _ h => h) (Or.inl ⟨by kernel_rfl, ?_⟩) hS ?_
          · intro w hSw; have c0 := hSw.1.cell0; have c1 := hSw.1.cell1; have c2 := hSw.1.cell2; have d0 := hSw.2.cell0; have d1 := hSw.2.cell1; have d2 := hSw.2.cell2; simp only at c0 c1 c2 d0 d1 d2; go_simp
            exact fun k1 k2 => HNE.out ⟨k1, k2⟩
          refine wpAnyH_take_at (i := 3) (some 80) (v := ?_) rfl rfl (by as_aux_lemma => kernel_rfl) (by as_aux_lemma => kernel_rfl) (by as_aux_lemma => kernel_rfl) (fun _ _ _ h => h) (Or.inl ⟨by kernel_rfl, ?_⟩) hS ?_
          rotate_left
          · intro w hSw; have c0 := hSw.1.cell0; have c1 := hSw.1.cell1; have c2 := hSw.1.cell2; have d0 := hSw.2.cell0; have d1 := hSw.2.cell1; have d2 := hSw.2.cell2; simp only at c0 c1 c2 d0 d1 d2; go_simp
            first | done | with_reducible rfl
          skip
          refine wpAnyH_take_at (i := 4) (some 81) (v := undef) rfl rfl (by as_aux_lemma => kernel_rfl) (by as_aux_lemma => kernel_rfl) (by as_aux_lemma => kernel_rfl) (fun _ _ _ h => h) (Or.inr ⟨by kernel_rfl, rfl⟩) hS ?_
          skip
          refine wpAnyH_take_at (i := 5) (some 82) (v := undef) rfl rfl (by as_aux_lemma => kernel_rfl) (by as_aux_lemma => kernel_rfl) (by as_aux_lemma => kernel_rfl) (fun _ _ _ h => h) (Or.inr ⟨by kernel_rfl, rfl⟩) hS ?_
          skip
          refine wpAnyH_take_at (i := 6) (some 83) (v := undef) rfl rfl (by as_aux_lemma => kernel_rfl) (by as_aux_lemma => kernel_rfl) (by as_aux_lemma => kernel_rfl) (fun _ _ _ h => h) (Or.inr ⟨by kernel_rfl, rfl⟩) hS ?_
          skip
          refine wpAnyH_take_at (i := 7) (some 84) (v := undef) rfl rfl (by as_aux_lemma => kernel_rfl) (by as_aux_lemma => kernel_rfl) (by as_aux_lemma => kernel_rfl) (fun _ _ _ h => h) (Or.inr ⟨by kernel_rfl, rfl⟩) hS ?_
          skip
          refine wpAnyH_take_at (i := 8) (some 85) (v := undef) rfl rfl (by as_aux_lemma => kernel_rfl) (by as_aux_lemma => kernel_rfl) (by as_aux_lemma => kernel_rfl) (fun _ _ _ h => h) (Or.inr ⟨by kernel_rfl, rfl⟩) hS ?_
          skip
          refine wpAnyH_take_at (i := 9) (some 86) (v := undef) rfl rfl (by as_aux_lemma => kernel_rfl) (by as_aux_lemma => kernel_rfl) (by as_aux_lemma => kernel_rfl) (fun _ _ _ h => h) (Or.inr ⟨by kernel_rfl, rfl⟩) hS ?_
          skip
          refine wpAnyH_take_at (i := 10) (some 87) (v := undef) rfl rfl (by as_aux_lemma => kernel_rfl) (by as_aux_lemma => kernel_rfl) (by as_aux_lemma => kernel_rfl) (fun _ _ _ h => h) (Or.inr ⟨by kernel_rfl, rfl⟩) hS ?_
          skip
          refine wpAnyH_take_at (i := 11) (some 88) (v := ?_) rfl rfl (by as_aux_lemma => kernel_rfl) (by as_aux_lemma => kernel_rfl) (by as_aux_lemma => kernel_rfl) (fun _ _ _ h => h) (Or.inl ⟨by kernel_rfl, ?_⟩) hS ?_
          rotate_left
          · intro w hSw; have c0 := hSw.1.cell0; have c1 := hSw.1.cell1; have c2 := hSw.1.cell2; have d0 := hSw.2.cell0; have d1 := hSw.2.cell1; have d2 := hSw.2.cell2; simp only at c0 c1 c2 d0 d1 d2; go_simp
            first | done | with_reducible rfl
          skip
          refine wpAnyH_take_at (i := 12) (some 89) (v := ?_) rfl rfl (by as_aux_lemma => kernel_rfl) (by as_aux_lemma => kernel_rfl) (by as_aux_lemma => kernel_rfl) (fun _ _ _ h => h) (Or.inl ⟨by kernel_rfl, ?_⟩) hS ?_
          rotate_left
          · intro w hSw; have c0 := hSw.1.cell0; have c1 := hSw.1.cell1; have c2 := hSw.1.cell2; have d0 := hSw.2.cell0; have d1 := hSw.2.cell1; have d2 := hSw.2.cell2; simp only at c0 c1 c2 d0 d1 d2; go_simp
            first | done | with_reducible rfl
          skip
          refine wpAnyH_ready (rs := [13]) (by as_aux_lemma => kernel_rfl) (by simp) ?_
          refine AllReadyH.cons rfl (fun K hK => ?_) AllReadyH.nil
          go_simp
          go_wp2_with (have y2 := y2.drew; go_at_call 9; refine (HW2.out _ y2).mono ?_; rintro e v3 ⟨rfl, p3⟩; have y3 := y2.trans (p3.mono y2.size))
          refine hK.out _ _ ?_ (fun hS => ?_)
          · exact ⟨hS.1.below p3, hS.2.below p3⟩
          clear hK K
          refine wpAnyH_take_at (i := 14) (some 91) (v := ?_) rfl rfl (by as_aux_lemma => kernel_rfl) (by as_aux_lemma => kernel_rfl) (by as_aux_lemma => kernel_rfl) (fun _ _ _ h => h) (Or.inl ⟨by kernel_rfl, ?_⟩) hS ?_
          rotate_left
          · intro w hSw; have c0 := hSw.1.cell0; have c1 := hSw.1.cell1; have c2 := hSw.1.cell2; have d0 := hSw.2.cell0; have d1 := hSw.2.cell1; have d2 := hSw.2.cell2; simp only at c0 c1 c2 d0 d1 d2; go_simp
            first | done | with_reducible rfl
          skip
          refine wpAnyH_take_at (i := 15) (some 6) (v := ?_) rfl rfl (by as_aux_lemma => kernel_rfl) (by as_aux_lemma => kernel_rfl) (by as_aux_lemma => kernel_rfl) (fun _ _ _ h => h) (Or.inl ⟨by kernel_rfl, ?_⟩) hS ?_
          rotate_left
          · intro w hSw; have c0 := hSw.1.cell0; have c1 := hSw.1.cell1; have c2 := hSw.1.cell2; have d0 := hSw.2.cell0; have d1 := hSw.2.cell1; have d2 := hSw.2.cell2; simp only at c0 c1 c2 d0 d1 d2; go_simp
            first | done | with_reducible rfl
          skip
          refine wpAnyH_done (by kernel_rfl) ?_ _
          clear hS HS2
          go_simp
          go_wp2
          go_ret
          exact ⟨rfl, y3⟩
      · have HC1 := Lib.hid (HC.out (n, o, v) _ b5)
        simp only at HC1
        generalize mErr (n, o, v) = E at *
        go_wp2_with (go_at_call 15; refine HC1.out.mono ?_; rintro e w6 ⟨rfl, q6⟩; refine Hid.out ?_)
        refine Lib.hid ?_
        have b6 := b5.trans (q6.mono b5.size)
        clear q6 HC1
        have HW3 := Lib.hid (HW2.out w6 b6)
        go_wp2_with (go_at_call 9; refine HW3.out.mono ?_; rintro e w7 ⟨rfl, q7⟩)
        go_ret
        exact ⟨rfl, b6.trans (q7.mono b6.size)⟩
  · rw [decide_eq_false hl] at HL
    clear hl
    have hb0h := Lib.hid hb0
    clear hb0
    go_enter Tryd.func4, Tryd.ntmps4
    go_wp2_with (go_at_call 14; refine HL.out.mono ?_; rintro e w1 ⟨rfl, q1⟩; refine Hid.out ?_)
    refine Lib.hid ?_
    have b1 := hb0h.out.trans (q1.mono hb0h.out.size)
    have HW1 := Lib.hid (HW.out w1 (htab.on b1 htl))
    go_wp2_with (go_at_call 9; refine HW1.out.mono ?_; rintro e w2 ⟨rfl, q2⟩)
    go_ret
    exact ⟨rfl, b1.trans (q2.mono b1.size)⟩

end Go.Proofs.YtbkejafjlapmnaaDoor
