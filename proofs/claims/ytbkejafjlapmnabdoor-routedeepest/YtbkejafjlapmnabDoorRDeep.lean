/-
  The walk of RouteDeepest: no route that is told has a child that takes the labels; where none continues just one is told.
-/
import Derived.Test.YtbkejafjlapmnabDoorRSome0
import Derived.Test.YtbkejafjlapmnabDoorRAwake
import Derived.Test.YtbkejafjlapmnabDoorRLight
namespace Go.Proofs.YtbkejafjlapmnabDoor
open Go.RowKit

theorem runKids_nil {g : Nat → List Nat} {co : Nat → Bool} : ∀ {ks : List Nat}, runKids g co ks = [] → ∀ k ∈ ks, g k = []
  | k :: r, h, q, hq => by
    unfold runKids at h
    split at h
    · rename_i h0
      rcases List.mem_cons.1 hq with rfl | hq
      · exact h0
      · exact runKids_nil h q hq
    · rename_i h0
      split at h
      · exact absurd (List.append_eq_nil_iff.1 h).1 h0
      · exact absurd h h0
theorem walk_nil {tk co : Nat → Bool} {kids : Nat → List Nat} {f a : Nat} (h : walkP tk co kids (f + 1) a = []) : tk a = false := by
  unfold walkP at h
  split at h
  · split at h
    · cases h
    · rename_i h0; exact absurd h h0
  · rename_i h0; exact Bool.eq_false_iff.2 h0
/-- No child of a route that is told takes the labels. -/
theorem walk_leaf {l : List Rt} (ht : TreeOk l) {tk co : Nat → Bool} : ∀ (f a x : Nat), l.length < a + f → x ∈ walkP tk co (kidsP l) f a → ∀ k ∈ kidsP l x, tk k = false
  | 0, _, _, _, h => by cases h
  | f + 1, a, x, hf, h => fun k hk => by
    have deeper : ∀ q ∈ kidsP l a, l.length < q + f := fun q hq => by
      obtain ⟨hql, hqp⟩ := kids_mem hq
      have := tree_par ht hql hqp
      omega
    unfold walkP at h
    split at h
    · split at h
      · rename_i h0
        rw [List.mem_singleton.1 h] at hk
        have h1 := runKids_nil h0 k hk
        have h2 := deeper k hk
        obtain ⟨hkl, -⟩ := kids_mem hk
        cases f with
        | zero => omega
        | succ f => exact walk_nil h1
      · obtain ⟨q, hq, hx⟩ := runKids_mem h
        exact walk_leaf ht f q x (deeper q hq) hx k hk
    · cases h
theorem runKids_one {g : Nat → List Nat} {co : Nat → Bool} (hc : ∀ k, co k = false) (hg : ∀ k, (g k).length ≤ 1) : ∀ ks, (runKids g co ks).length ≤ 1
  | [] => Nat.zero_le _
  | k :: r => by
    unfold runKids
    split
    · exact runKids_one hc hg r
    · rw [if_neg (by rw [hc k]; decide)]
      exact hg k
theorem walk_one {tk co : Nat → Bool} {kids : Nat → List Nat} (hc : ∀ k, co k = false) : ∀ f a, (walkP tk co kids f a).length ≤ 1
  | 0, _ => Nat.zero_le _
  | f + 1, a => by
    unfold walkP
    split
    · split
      · exact Nat.le_refl _
      · exact runKids_one hc (walk_one hc f) _
    · exact Nat.zero_le _
theorem walkL_deep {l : List Rt} (ht : TreeOk l) {tk : Nat → Bool} : (∀ x ∈ walkL l tk, ∀ k ∈ kidsP l x, tk k = false) ∧ ((∀ i (hi : i < l.length), l[i].co = false) → (walkL l tk).length ≤ 1) := by
  obtain ⟨h0, -⟩ := ht.1
  have e : walkL l tk = walkP tk (coP l) (kidsP l) (l.length + 1) 0 := by unfold walkL; rw [if_neg (by omega)]
  rw [e]
  refine ⟨fun x hx => walk_leaf ht (l.length + 1) 0 x (by omega) hx, fun h => walk_one (fun k => ?_) _ _⟩
  unfold coP
  by_cases hk : k < l.length
  · simp [hk, h k hk]
  · simp [hk]

set_option maxRecDepth 20000 in
set_option maxHeartbeats 2000000 in
theorem tChildren_any (a : Option Addr) (c : Nat) (l : List Rt) (i : Nat) (w : World) (hl : RtsAt w a l) (hn : l.length ≤ 1000000) (hi : i < l.length) :
    Calls Tryd.prog 10 #[.slice a l.length c, .int .i64 (i : Int)] w fun e w' => TellsInts (kidsP l i) e w' ∧ Below w.heap.size w w' := by
  have HA := Lib.hid (tall_any a c l w hl hn)
  have h1 : ¬ (i : Int) < 0 := by omega
  have h2 : ¬ (l.length : Int) ≤ (i : Int) := by omega
  have h3 : (i : Int) < (l.length : Int) := by omega
  clear hl
  go_enter Tryd.func10, Tryd.ntmps10
  go_wp2_with (go_at_call 19; refine HA.out.mono ?_; rintro e w1 ⟨rfl, hF, q1⟩; obtain ⟨ka, kc, ck, hI⟩ := hF.2 i hi; have HI := Lib.hid hI; clear hF hI)
  go_ret
  exact ⟨⟨ka, kc, rfl, HI.out⟩, q1⟩

set_option maxRecDepth 20000 in
set_option maxHeartbeats 8000000 in
theorem deep_walk (a : Option Addr) (c : Nat) (l : List Rt) (b : Option Addr) (cb : Nat) (ls : List Rl) (pt rs : Int) (d : Option Addr) (pc : Nat) (ps : List Pr) (w : World) (htab : TabW w) (hl : RtsAt w a l) (hls : RlsAt w b ls) (okl : ∀ r ∈ l, RtOk r) (okls : ∀ r ∈ ls, RlOk r) (hn : l.length ≤ 9223372036854775807) (hm : ls.length ≤ 9223372036854775807) (hps : PairsAt w d ps) (hpn : ps.length ≤ 9223372036854775807) :
    Calls Tryd.prog 3 #[.agg #[.slice a l.length c, .slice b ls.length cb, .int .i64 pt, .int .i64 rs], .slice d ps.length pc] w fun e w' => e = .returned (.bool true) ∧ Below w.heap.size w w' := by
  have htl := htab.lt
  obtain ⟨tk, htk⟩ := tk_ex l ps
  have hA := (Below.refl w.heap.size w).alloc (Nat.le_refl _) (.cells #[.slice a l.length c, .slice b ls.length cb, .int .i64 pt, .int .i64 rs] 25)
  have hm0 : CfBlk (w.alloc (.cells #[.slice a l.length c, .slice b ls.length cb, .int .i64 pt, .int .i64 rs] 25)) w.heap.size a l.length c b ls.length cb pt rs := heap_new w _
  have HW := Lib.hid (fun u (hb : Below w.heap.size w u) => tawake_any u (htab.on hb htl))
  have HL := Lib.hid (uLight_any a c l b cb ls pt rs _ (hl.below hA (Nat.le_refl _)) (hls.below hA (Nat.le_refl _)) hn hm)
  have HP := Lib.hid (fun u (hb : Below w.heap.size w u) => nLight_any none d 0 0 pc ps u (hps.below hb (Nat.le_refl _)) (by decide) hpn)
  have HC := Lib.hid (fun u (hb : Below w.heap.size w u) => tCheck_any a c l b cb ls pt rs u (htab.on hb htl) (hl.below hb (Nat.le_refl _)) (hls.below hb (Nat.le_refl _)) okl okls hn hm)
  have HB0 := Lib.hid hA
  have HM0 := Lib.hid hm0
  by_cases hL : LightC l ls
  · have HLt := Lib.hid hL
    have hl20 : l.length ≤ 20 := hL.1
    have hok : (∀ r ∈ l, r.ms.length ≤ 9223372036854775807) := fun r hr => (okl r hr).1.1
    have HWk := Lib.hid (fun (hpv : ∀ q ∈ ps, q.2.size ≤ 9223372036854775807) u (hb : Below w.heap.size w u) => tWalk_any a c l d pc ps tk htk u (htab.on hb htl) (hl.below hb (Nat.le_refl _)) (hps.below hb (Nat.le_refl _)) (by have := hL.1; omega) hok hpn hpv)
    have HAl := Lib.hid (fun (hpv : ∀ q ∈ ps, q.2.size ≤ 9223372036854775807) (r : Rt) (hr : r ∈ l) u (hb : Below w.heap.size w u) (hu : MtsAt u r.ma r.ms) => mAll_any r.ma r.mc r.ms d pc ps u (htab.on hb htl) hu (hok r hr) (hps.below hb (Nat.le_refl _)) hpn hpv _ rfl)
    have HR := Lib.hid hl
    have HCh := Lib.hid (fun i (hi : i < l.length) u (hb : Below w.heap.size w u) => tChildren_any a c l i u (hl.below hb (Nat.le_refl _)) (by omega) hi)
    clear hA hm0 hl hls okl okls hps htab hL hok
    go_enter Tryd.func3, Tryd.ntmps3
    go_wp2_with (go_at_call 5; refine HL.out.mono ?_; rintro e w1 ⟨ht, q1⟩; obtain rfl := tells_yes ht HLt.out; clear ht; refine Hid.out ?_)
    refine Lib.hid ?_
    have b1 := HB0.out.trans (q1.mono HB0.out.size)
    have m1 := HM0.out.below q1
    clear q1 HL HB0 HM0 HLt
    have HP1 := Lib.hid (HP.out w1 b1)
    by_cases hP : LightP 0 ps
    · rw [decide_eq_true hP] at HP1
      have hpv : ∀ q ∈ ps, q.2.size ≤ 9223372036854775807 := fun q hq => by have := hP.2.2 q hq; omega
      have HWk1 := Lib.hid (HWk.out hpv)
      have HAl1 := Lib.hid (HAl.out hpv)
      clear HWk HAl hP hpv
      go_wp2_with (go_at_call 6; refine HP1.out.mono ?_; rintro e w2 ⟨rfl, q2⟩; refine Hid.out ?_)
      refine Lib.hid ?_
      have b2 := b1.trans (q2.mono b1.size)
      have m2 := m1.below q2
      clear q2 b1 m1 HP1 HP
      have c0 := cell_heap (j := 0) m2
      have c1 := cell_heap (j := 1) m2
      have c2 := cell_heap (j := 2) m2
      have c3 := cell_heap (j := 3) m2
      simp only [List.getElem?_toArray, List.getElem?_cons_zero, List.getElem?_cons_succ] at c0 c1 c2 c3
      have HC2 := Lib.hid (HC.out w2 b2)
      by_cases hE : confE l ls pt rs = 0
      · have ht := conf_tree hE
        obtain ⟨hpos, hgood, -⟩ := walkL_tree ht htk
        have hLb : (walkL l tk).length ≤ 1000 := by
          have h1 := walkL_few l tk
          have h2 : (l.length + 1) * l.length ≤ 21 * 20 := Nat.mul_le_mul (by omega) hl20
          omega
        have HTr := Lib.hid ht
        have HG := Lib.hid hgood
        have HND := Lib.hid (walkL_deep ht (tk := tk))
        rw [hE] at HC2
        clear hE ht hgood HC
        go_wp2_with (go_at_call 7; refine HC2.out.mono ?_; rintro e w3 ⟨rfl, q3⟩; refine Hid.out ?_)
        refine Lib.hid ?_
        have b3 := b2.trans (q3.mono b2.size)
        have m3 := m2.below q3
        clear q3 b2 m2 HC2 c0 c1 c2 c3
        have c0 := cell_heap (j := 0) m3
        simp only [List.getElem?_toArray, List.getElem?_cons_zero] at c0
        have HWk2 := Lib.hid (HWk1.out w3 b3)
        generalize walkL l tk = L at *
        go_wp2_with (go_at_call 9; refine HWk2.out.mono ?_; rintro e w4 ⟨⟨ta, tc, rfl, i4⟩, q4⟩; refine Hid.out ?_)
        refine Lib.hid ?_
        have HB4 := Lib.hid (b3.trans (q4.mono b3.size))
        have HM4 := Lib.hid (m3.below q4)
        obtain ⟨tb, to, rfl, htb, hct⟩ := i4 hpos
        have HCt := Lib.hid hct
        clear q4 b3 m3 HWk2 HWk1 i4 c0 hct
        go_wp2
        go_loopw [6] (fun i wr => ∃ k : Nat, k ≤ L.length ∧ i = .int .i64 k ∧ Hid (Below w4.heap.size w4 wr)) (fun i _ => L.length - (intOf i).toNat)
        case atStart => exact ⟨0, Nat.zero_le _, rfl, Lib.hid (Below.refl _ _)⟩
        case round =>
          obtain ⟨i, hi, rfl, HB⟩ := hrel
          by_cases hil : i < L.length
          · have hil' : (i : Int) < (L.length : Int) := by omega
            obtain ⟨hx, -, -⟩ := (HG.out _ (List.getElem_mem hil)).out
            have HXd := Lib.hid (HND.out.1 _ (List.getElem_mem hil))
            have ci : wr.cell? ⟨tb, to + i, none⟩ = some (.int .i64 ((L[i] : Nat) : Int)) := (HB.out.cell (p := ⟨tb, to + i, none⟩) htb).trans (HCt.out i hil)
            have cc0 : wr.cell? ⟨w.heap.size, 0, none⟩ = some (.slice a l.length c) := cell_heap (HM4.out.below HB.out)
            have HCi := Lib.hid (HCh.out L[i] hx wr.drew (HB4.out.trans (HB.out.mono HB4.out.size)).drew)
            generalize L[i] = x at *
            go_wp2_with fail
            refine wp_region_any (by kernel_rfl) ?_
            change wpAny _ _ _ _ _ _ _ (World.drew _)
            have hS : (fun w' : World => w'.cell? ⟨w.heap.size, 0, none⟩ = some (.slice a l.length c) ∧ w'.cell? ⟨tb, to + i, none⟩ = some (.int .i64 (x : Int))) wr.drew := ⟨cc0, ci⟩
            refine wpAny_of_held (S := fun w' => w'.cell? ⟨w.heap.size, 0, none⟩ = some (.slice a l.length c) ∧ w'.cell? ⟨tb, to + i, none⟩ = some (.int .i64 (x : Int))) _ _ _ _ ?_
            refine wpAnyH_take_at (i := 0) (some 35) (v := ?_) rfl rfl (by as_aux_lemma => kernel_rfl) (by as_aux_lemma => kernel_rfl) (by as_aux_lemma => kernel_rfl) (fun _ _ _ h => h) (Or.inl ⟨by kernel_rfl, ?_⟩) hS ?_
            rotate_left
            · intro w hSw; obtain ⟨e1, e2⟩ := hSw; go_simp
              first | done | with_reducible rfl
            skip
            refine wpAnyH_take_at (i := 1) (some 36) (v := ?_) rfl rfl (by as_aux_lemma => kernel_rfl) (by as_aux_lemma => kernel_rfl) (by as_aux_lemma => kernel_rfl) (fun _ _ _ h => h) (Or.inl ⟨by kernel_rfl, ?_⟩) hS ?_
            rotate_left
            · intro w hSw; obtain ⟨e1, e2⟩ := hSw; go_simp
              first | done | with_reducible rfl
            skip
            refine wpAnyH_take_at (i := 2) (some 37) (v := ?_) rfl rfl (by as_aux_lemma => kernel_rfl) (by as_aux_lemma => kernel_rfl) (by as_aux_lemma => kernel_rfl) (fun _ _ _ h => h) (Or.inl ⟨by kernel_rfl, ?_⟩) hS ?_
            rotate_left
            · intro w hSw; obtain ⟨e1, e2⟩ := hSw; go_simp
              first | done | with_reducible rfl
            skip
            refine wpAnyH_take_at (i := 3) (some 38) (v := ?_) rfl rfl (by as_aux_lemma => kernel_rfl) (by as_aux_lemma => kernel_rfl) (by as_aux_lemma => kernel_rfl) (fun _ _ _ h => h) (Or.inl ⟨by kernel_rfl, ?_⟩) hS ?_
            rotate_left
            · intro w hSw; obtain ⟨e1, e2⟩ := hSw; go_simp
              first | done | with_reducible rfl
            skip
            refine wpAnyH_take_at (i := 4) (some 39) (v := ?_) rfl rfl (by as_aux_lemma => kernel_rfl) (by as_aux_lemma => kernel_rfl) (by as_aux_lemma => kernel_rfl) (fun _ _ _ h => h) (Or.inl ⟨by kernel_rfl, ?_⟩) hS ?_
            rotate_left
            · intro w hSw; obtain ⟨e1, e2⟩ := hSw; go_simp
              first | done | with_reducible rfl
            skip
            refine wpAnyH_take_at (i := 5) (some 40) (v := ?_) rfl rfl (by as_aux_lemma => kernel_rfl) (by as_aux_lemma => kernel_rfl) (by as_aux_lemma => kernel_rfl) (fun _ _ _ h => h) (Or.inl ⟨by kernel_rfl, ?_⟩) hS ?_
            rotate_left
            · intro w hSw; obtain ⟨e1, e2⟩ := hSw; go_simp
              first | done | with_reducible rfl
            skip
            refine wpAnyH_ready (rs := [6]) (by as_aux_lemma => kernel_rfl) (by simp) ?_
            refine AllReadyH.cons rfl (fun K hK => ?_) AllReadyH.nil
            go_simp
            go_wp2_with (go_at_call 10; refine HCi.out.mono ?_; rintro e w5 ⟨⟨ka, kc, rfl, i5⟩, q5⟩)
            refine hK.out _ _ ?_ (fun hS => ?_)
            · exact ⟨(q5.cell (p := ⟨w.heap.size, 0, none⟩) (World.block_lt_of_cell? _ _ hS.1)).trans hS.1, (q5.cell (p := ⟨tb, to + i, none⟩) (World.block_lt_of_cell? _ _ hS.2)).trans hS.2⟩
            clear hK K
            refine wpAnyH_take_at (i := 7) (some 7) (v := ?_) rfl rfl (by as_aux_lemma => kernel_rfl) (by as_aux_lemma => kernel_rfl) (by as_aux_lemma => kernel_rfl) (fun _ _ _ h => h) (Or.inl ⟨by kernel_rfl, ?_⟩) hS ?_
            rotate_left
            · intro w hSw; obtain ⟨e1, e2⟩ := hSw; go_simp
              first | done | with_reducible rfl
            skip
            refine wpAnyH_done (by kernel_rfl) ?_ _
            have HB5 := Lib.hid (HB.out.drew.trans (q5.mono HB.out.drew.size))
            have HI5 := Lib.hid i5
            clear hS ci cc0 HB q5 i5 HCi
            go_simp
            have hks : (kidsP l x).length ≤ 1000000 := by have := kids_len l x l.length; unfold kidsP; omega
            have HKm : Hid (∀ q ∈ kidsP l x, q < l.length) := Lib.hid fun q hq => (kids_mem hq).1
            generalize kidsP l x = ks at *
            go_wp2
            go_loopw [8] (fun z wr => ∃ k : Nat, k ≤ ks.length ∧ z = .int .i64 k ∧ Hid (Below w5.heap.size w5 wr)) (fun z _ => ks.length - (intOf z).toNat)
            case atStart => exact ⟨0, Nat.zero_le _, rfl, Lib.hid (Below.refl _ _)⟩
            case round =>
              obtain ⟨k, hk, rfl, HB⟩ := hrel
              have HBw := Lib.hid (HB5.out.trans (HB.out.mono HB5.out.size))
              by_cases hkl : k < ks.length
              · have hkl' : (k : Int) < (ks.length : Int) := by omega
                obtain ⟨kb, ko, rfl, hkb, hck⟩ := HI5.out (by omega)
                have ck : wr.cell? ⟨kb, ko + k, none⟩ = some (.int .i64 ((ks[k] : Nat) : Int)) := (HB.out.cell (p := ⟨kb, ko + k, none⟩) hkb).trans (hck k hkl)
                have hq := HKm.out _ (List.getElem_mem hkl)
                have hqk := HXd.out _ (List.getElem_mem hkl)
                generalize ks[k] = q at *
                clear hck
                have hbw := HB4.out.trans (HBw.out.mono HB4.out.size)
                obtain ⟨rb, ro, rfl, hrb, hr⟩ := HR.out (by omega)
                obtain ⟨hr1, hr2, -⟩ := hr q hq
                have cc0 : wr.cell? ⟨w.heap.size, 0, none⟩ = some (.slice (some ⟨rb, ro, none⟩) l.length c) := cell_heap (HM4.out.below HBw.out)
                have cm : wr.cell? ⟨rb, ro + q * 8 + 1, none⟩ = some (.slice l[q].ma l[q].ms.length l[q].mc) := (hbw.cell (p := ⟨rb, ro + q * 8 + 1, none⟩) hrb).trans (hr1 1 _ rfl)
                have HA := Lib.hid (HAl1.out l[q] (List.getElem_mem hq) wr.drew hbw.drew (hr2.below hbw.drew (Nat.le_refl _)))
                have HTk := Lib.hid (fun e (he : Tells (∀ m ∈ l[q].ms, mAsk ps m) e) => (tkP_of htk hq he).trans (by rw [hqk]))
                have g1 : ¬ (q : Int) < 0 := by omega
                have g2 : ¬ (l.length : Int) ≤ (q : Int) := by omega
                have g2n : ¬ l.length ≤ q := by omega
                have g3 : (q : Int) < (l.length : Int) := by omega
                clear hr hr1 hr2 hqk hbw
                generalize l[q].ma = ma at *
                generalize l[q].mc = mc at *
                generalize hml : l[q].ms.length = ml at *
                clear hml
                go_wp2_with fail
                refine wp_region_any (by kernel_rfl) ?_
                change wpAny _ _ _ _ _ _ _ (World.drew _)
                have hS : (fun w' : World => w'.cell? ⟨w.heap.size, 0, none⟩ = some (.slice (some ⟨rb, ro, none⟩) l.length c) ∧ w'.cell? ⟨kb, ko + k, none⟩ = some (.int .i64 (q : Int)) ∧ w'.cell? ⟨rb, ro + q * 8 + 1, none⟩ = some (.slice ma ml mc)) wr.drew := ⟨cc0, ck, cm⟩
                refine wpAny_of_held (S := fun w' => w'.cell? ⟨w.heap.size, 0, none⟩ = some (.slice (some ⟨rb, ro, none⟩) l.length c) ∧ w'.cell? ⟨kb, ko + k, none⟩ = some (.int .i64 (q : Int)) ∧ w'.cell? ⟨rb, ro + q * 8 + 1, none⟩ = some (.slice ma ml mc)) _ _ _ _ ?_
                refine wpAnyH_take_at (i := 0) (some 48) (v := ?_) rfl rfl (by as_aux_lemma => kernel_rfl) (by as_aux_lemma => kernel_rfl) (by as_aux_lemma => kernel_rfl) (fun _ _ _ h => h) (Or.inl ⟨by kernel_rfl, ?_⟩) hS ?_
                rotate_left
                · intro w hSw; obtain ⟨e1, e2, e3⟩ := hSw; go_simp
                  first | done | with_reducible rfl
                skip
                refine wpAnyH_take_at (i := 1) (some 49) (v := ?_) rfl rfl (by as_aux_lemma => kernel_rfl) (by as_aux_lemma => kernel_rfl) (by as_aux_lemma => kernel_rfl) (fun _ _ _ h => h) (Or.inl ⟨by kernel_rfl, ?_⟩) hS ?_
                rotate_left
                · intro w hSw; obtain ⟨e1, e2, e3⟩ := hSw; go_simp
                  first | done | with_reducible rfl
                skip
                refine wpAnyH_take_at (i := 2) (some 50) (v := ?_) rfl rfl (by as_aux_lemma => kernel_rfl) (by as_aux_lemma => kernel_rfl) (by as_aux_lemma => kernel_rfl) (fun _ _ _ h => h) (Or.inl ⟨by kernel_rfl, ?_⟩) hS ?_
                rotate_left
                · intro w hSw; obtain ⟨e1, e2, e3⟩ := hSw; go_simp
                  first | done | with_reducible rfl
                skip
                refine wpAnyH_take_at (i := 3) (some 51) (v := ?_) rfl rfl (by as_aux_lemma => kernel_rfl) (by as_aux_lemma => kernel_rfl) (by as_aux_lemma => kernel_rfl) (fun _ _ _ h => h) (Or.inl ⟨by kernel_rfl, ?_⟩) hS ?_
                rotate_left
                · intro w hSw; obtain ⟨e1, e2, e3⟩ := hSw; go_simp
                  first | done | with_reducible rfl
                skip
                refine wpAnyH_take_at (i := 4) (some 52) (v := ?_) rfl rfl (by as_aux_lemma => kernel_rfl) (by as_aux_lemma => kernel_rfl) (by as_aux_lemma => kernel_rfl) (fun _ _ _ h => h) (Or.inl ⟨by kernel_rfl, ?_⟩) hS ?_
                rotate_left
                · intro w hSw; obtain ⟨e1, e2, e3⟩ := hSw; go_simp
                  first | done | with_reducible rfl
                skip
                refine wpAnyH_take_at (i := 5) (some 53) (v := ?_) rfl rfl (by as_aux_lemma => kernel_rfl) (by as_aux_lemma => kernel_rfl) (by as_aux_lemma => kernel_rfl) (fun _ _ _ h => h) (Or.inl ⟨by kernel_rfl, ?_⟩) hS ?_
                rotate_left
                · intro w hSw; obtain ⟨e1, e2, e3⟩ := hSw; go_simp
                  first | done | with_reducible rfl
                skip
                refine wpAnyH_take_at (i := 6) (some 54) (v := ?_) rfl rfl (by as_aux_lemma => kernel_rfl) (by as_aux_lemma => kernel_rfl) (by as_aux_lemma => kernel_rfl) (fun _ _ _ h => h) (Or.inl ⟨by kernel_rfl, ?_⟩) hS ?_
                rotate_left
                · intro w hSw; obtain ⟨e1, e2, e3⟩ := hSw; go_simp
                  first | done | with_reducible rfl
                skip
                refine wpAnyH_take_at (i := 7) (some 55) (v := ?_) rfl rfl (by as_aux_lemma => kernel_rfl) (by as_aux_lemma => kernel_rfl) (by as_aux_lemma => kernel_rfl) (fun _ _ _ h => h) (Or.inl ⟨by kernel_rfl, ?_⟩) hS ?_
                rotate_left
                · intro w hSw; obtain ⟨e1, e2, e3⟩ := hSw; go_simp
                  first | done | with_reducible rfl
                skip
                refine wpAnyH_take_at (i := 8) (some 56) (v := ?_) rfl rfl (by as_aux_lemma => kernel_rfl) (by as_aux_lemma => kernel_rfl) (by as_aux_lemma => kernel_rfl) (fun _ _ _ h => h) (Or.inl ⟨by kernel_rfl, ?_⟩) hS ?_
                rotate_left
                · intro w hSw; obtain ⟨e1, e2, e3⟩ := hSw; go_simp
                  first | done | with_reducible rfl
                skip
                refine wpAnyH_take_at (i := 9) (some 57) (v := ?_) rfl rfl (by as_aux_lemma => kernel_rfl) (by as_aux_lemma => kernel_rfl) (by as_aux_lemma => kernel_rfl) (fun _ _ _ h => h) (Or.inl ⟨by kernel_rfl, ?_⟩) hS ?_
                rotate_left
                · intro w hSw; obtain ⟨e1, e2, e3⟩ := hSw; go_simp
                  first | done | with_reducible rfl
                skip
                refine wpAnyH_take_at (i := 10) (some 58) (v := ?_) rfl rfl (by as_aux_lemma => kernel_rfl) (by as_aux_lemma => kernel_rfl) (by as_aux_lemma => kernel_rfl) (fun _ _ _ h => h) (Or.inl ⟨by kernel_rfl, ?_⟩) hS ?_
                rotate_left
                · intro w hSw; obtain ⟨e1, e2, e3⟩ := hSw; go_simp
                  first | done | with_reducible rfl
                skip
                refine wpAnyH_take_at (i := 11) (some 59) (v := ?_) rfl rfl (by as_aux_lemma => kernel_rfl) (by as_aux_lemma => kernel_rfl) (by as_aux_lemma => kernel_rfl) (fun _ _ _ h => h) (Or.inl ⟨by kernel_rfl, ?_⟩) hS ?_
                rotate_left
                · intro w hSw; obtain ⟨e1, e2, e3⟩ := hSw; go_simp
                  first | done | with_reducible rfl
                skip
                refine wpAnyH_take_at (i := 12) (some 60) (v := ?_) rfl rfl (by as_aux_lemma => kernel_rfl) (by as_aux_lemma => kernel_rfl) (by as_aux_lemma => kernel_rfl) (fun _ _ _ h => h) (Or.inl ⟨by kernel_rfl, ?_⟩) hS ?_
                rotate_left
                · intro w hSw; obtain ⟨e1, e2, e3⟩ := hSw; go_simp
                  first | done | with_reducible rfl
                skip
                refine wpAnyH_take_at (i := 13) (some 61) (v := ?_) rfl rfl (by as_aux_lemma => kernel_rfl) (by as_aux_lemma => kernel_rfl) (by as_aux_lemma => kernel_rfl) (fun _ _ _ h => h) (Or.inl ⟨by kernel_rfl, ?_⟩) hS ?_
                rotate_left
                · intro w hSw; obtain ⟨e1, e2, e3⟩ := hSw; go_simp
                  first | done | with_reducible rfl
                skip
                refine wpAnyH_take_at (i := 14) (some 62) (v := ?_) rfl rfl (by as_aux_lemma => kernel_rfl) (by as_aux_lemma => kernel_rfl) (by as_aux_lemma => kernel_rfl) (fun _ _ _ h => h) (Or.inl ⟨by kernel_rfl, ?_⟩) hS ?_
                rotate_left
                · intro w hSw; obtain ⟨e1, e2, e3⟩ := hSw; go_simp
                  first | done | with_reducible rfl
                skip
                refine wpAnyH_take_at (i := 15) (some 63) (v := ?_) rfl rfl (by as_aux_lemma => kernel_rfl) (by as_aux_lemma => kernel_rfl) (by as_aux_lemma => kernel_rfl) (fun _ _ _ h => h) (Or.inl ⟨by kernel_rfl, ?_⟩) hS ?_
                rotate_left
                · intro w hSw; obtain ⟨e1, e2, e3⟩ := hSw; go_simp
                  first | done | with_reducible rfl
                skip
                refine wpAnyH_take_at (i := 16) (some 64) (v := ?_) rfl rfl (by as_aux_lemma => kernel_rfl) (by as_aux_lemma => kernel_rfl) (by as_aux_lemma => kernel_rfl) (fun _ _ _ h => h) (Or.inl ⟨by kernel_rfl, ?_⟩) hS ?_
                rotate_left
                · intro w hSw; obtain ⟨e1, e2, e3⟩ := hSw; go_simp
                  first | done | with_reducible rfl
                skip
                refine wpAnyH_take_at (i := 17) (some 65) (v := ?_) rfl rfl (by as_aux_lemma => kernel_rfl) (by as_aux_lemma => kernel_rfl) (by as_aux_lemma => kernel_rfl) (fun _ _ _ h => h) (Or.inl ⟨by kernel_rfl, ?_⟩) hS ?_
                rotate_left
                · intro w hSw; obtain ⟨e1, e2, e3⟩ := hSw; go_simp
                  first | done | with_reducible rfl
                skip
                refine wpAnyH_take_at (i := 18) (some 66) (v := ?_) rfl rfl (by as_aux_lemma => kernel_rfl) (by as_aux_lemma => kernel_rfl) (by as_aux_lemma => kernel_rfl) (fun _ _ _ h => h) (Or.inl ⟨by kernel_rfl, ?_⟩) hS ?_
                rotate_left
                · intro w hSw; obtain ⟨e1, e2, e3⟩ := hSw; go_simp
                  first | done | with_reducible rfl
                skip
                refine wpAnyH_take_at (i := 19) (some 67) (v := ?_) rfl rfl (by as_aux_lemma => kernel_rfl) (by as_aux_lemma => kernel_rfl) (by as_aux_lemma => kernel_rfl) (fun _ _ _ h => h) (Or.inl ⟨by kernel_rfl, ?_⟩) hS ?_
                rotate_left
                · intro w hSw; obtain ⟨e1, e2, e3⟩ := hSw; go_simp
                  first | done | with_reducible rfl
                skip
                refine wpAnyH_take_at (i := 20) (some 68) (v := ?_) rfl rfl (by as_aux_lemma => kernel_rfl) (by as_aux_lemma => kernel_rfl) (by as_aux_lemma => kernel_rfl) (fun _ _ _ h => h) (Or.inl ⟨by kernel_rfl, ?_⟩) hS ?_
                rotate_left
                · intro w hSw; obtain ⟨e1, e2, e3⟩ := hSw; go_simp
                  first | done | with_reducible rfl
                skip
                refine wpAnyH_take_at (i := 21) (some 69) (v := ?_) rfl rfl (by as_aux_lemma => kernel_rfl) (by as_aux_lemma => kernel_rfl) (by as_aux_lemma => kernel_rfl) (fun _ _ _ h => h) (Or.inl ⟨by kernel_rfl, ?_⟩) hS ?_
                rotate_left
                · intro w hSw; obtain ⟨e1, e2, e3⟩ := hSw; go_simp
                  first | done | with_reducible rfl
                skip
                refine wpAnyH_take_at (i := 22) (some 70) (v := ?_) rfl rfl (by as_aux_lemma => kernel_rfl) (by as_aux_lemma => kernel_rfl) (by as_aux_lemma => kernel_rfl) (fun _ _ _ h => h) (Or.inl ⟨by kernel_rfl, ?_⟩) hS ?_
                rotate_left
                · intro w hSw; obtain ⟨e1, e2, e3⟩ := hSw; go_simp
                  first | done | with_reducible rfl
                skip
                refine wpAnyH_take_at (i := 23) (some 71) (v := ?_) rfl rfl (by as_aux_lemma => kernel_rfl) (by as_aux_lemma => kernel_rfl) (by as_aux_lemma => kernel_rfl) (fun _ _ _ h => h) (Or.inl ⟨by kernel_rfl, ?_⟩) hS ?_
                rotate_left
                · intro w hSw; obtain ⟨e1, e2, e3⟩ := hSw; go_simp
                  first | done | with_reducible rfl
                skip
                refine wpAnyH_take_at (i := 24) (some 72) (v := ?_) rfl rfl (by as_aux_lemma => kernel_rfl) (by as_aux_lemma => kernel_rfl) (by as_aux_lemma => kernel_rfl) (fun _ _ _ h => h) (Or.inl ⟨by kernel_rfl, ?_⟩) hS ?_
                rotate_left
                · intro w hSw; obtain ⟨e1, e2, e3⟩ := hSw; go_simp
                  first | done | with_reducible rfl
                skip
                refine wpAnyH_take_at (i := 25) (some 73) (v := ?_) rfl rfl (by as_aux_lemma => kernel_rfl) (by as_aux_lemma => kernel_rfl) (by as_aux_lemma => kernel_rfl) (fun _ _ _ h => h) (Or.inl ⟨by kernel_rfl, ?_⟩) hS ?_
                rotate_left
                · intro w hSw; obtain ⟨e1, e2, e3⟩ := hSw; go_simp
                  first | done | with_reducible rfl
                skip
                refine wpAnyH_ready (rs := [26]) (by as_aux_lemma => kernel_rfl) (by simp) ?_
                refine AllReadyH.cons rfl (fun K hK => ?_) AllReadyH.nil
                go_simp
                go_wp2_with (go_at_call 11; refine HA.out.mono ?_; rintro e w6 ⟨he, q6⟩; obtain rfl := HTk.out _ he; clear he)
                refine hK.out _ _ ?_ (fun hS => ?_)
                · exact ⟨(q6.cell (p := ⟨w.heap.size, 0, none⟩) (World.block_lt_of_cell? _ _ hS.1)).trans hS.1, (q6.cell (p := ⟨kb, ko + k, none⟩) (World.block_lt_of_cell? _ _ hS.2.1)).trans hS.2.1, (q6.cell (p := ⟨rb, ro + q * 8 + 1, none⟩) (World.block_lt_of_cell? _ _ hS.2.2)).trans hS.2.2⟩
                clear hK K
                refine wpAnyH_take_at (i := 27) (some 75) (v := ?_) rfl rfl (by as_aux_lemma => kernel_rfl) (by as_aux_lemma => kernel_rfl) (by as_aux_lemma => kernel_rfl) (fun _ _ _ h => h) (Or.inl ⟨by kernel_rfl, ?_⟩) hS ?_
                rotate_left
                · intro w hSw; obtain ⟨e1, e2, e3⟩ := hSw; go_simp
                  first | done | with_reducible rfl
                skip
                refine wpAnyH_done (by kernel_rfl) ?_ _
                have HB6 := Lib.hid (HB.out.drew.trans (q6.mono HB.out.drew.size))
                clear hS cc0 ck cm q6 HB HA HTk HBw
                go_simp
                go_wp2
                go_roundw
                case rel => exact ⟨k + 1, by omega, by go_num, HB6⟩
                case measure => simp [intOf]; omega
              · obtain rfl : k = ks.length := by omega
                go_wp2
                go_roundw
                case rel => exact ⟨i + 1, by omega, by go_num, HBw⟩
                case measure => simp [intOf]; omega
          · obtain rfl : i = L.length := by omega
            have cc0 : wr.cell? ⟨w.heap.size, 0, none⟩ = some (.slice a l.length c) := cell_heap (HM4.out.below HB.out)
            go_wp2
            go_loopw [9, 10] (fun m z wr => ∃ (k : Nat) (mo : Bool), k ≤ l.length ∧ m = .bool mo ∧ z = .int .i64 k ∧ Hid (mo = false → ∀ j (hj : j < l.length), j < k → l[j].co = false) ∧ Hid (Below w4.heap.size w4 wr)) (fun _ z _ => l.length - (intOf z).toNat)
            case atStart => exact ⟨0, false, Nat.zero_le _, rfl, rfl, Lib.hid fun _ j _ hj => absurd hj (Nat.not_lt_zero _), HB⟩
            case round =>
              clear HB cc0
              obtain ⟨k, mo, hk, rfl, rfl, HMo, HB⟩ := hrel
              have cc0 : wr.cell? ⟨w.heap.size, 0, none⟩ = some (.slice a l.length c) := cell_heap (HM4.out.below HB.out)
              by_cases hkl : k < l.length
              · have hkl' : (k : Int) < (l.length : Int) := by omega
                obtain ⟨rb, ro, rfl, hrb, hr⟩ := HR.out (by omega)
                have cc2 : wr.cell? ⟨rb, ro + k * 8 + 2, none⟩ = some (.bool l[k].co) := ((HB4.out.trans (HB.out.mono HB4.out.size)).cell (p := ⟨rb, ro + k * 8 + 2, none⟩) hrb).trans ((hr k hkl).1 2 _ rfl)
                clear hr
                have HMo2 : Hid ((mo || l[k].co) = false → ∀ j (hj : j < l.length), j < k + 1 → l[j].co = false) := Lib.hid fun h j hj hjk => by
                  obtain ⟨h1, h2⟩ := Bool.or_eq_false_iff.1 h
                  by_cases e : j = k
                  · subst e; exact h2
                  · exact HMo.out h1 j hj (by omega)
                generalize l[k].co = co at *
                clear HMo
                cases mo with
                | true =>
                  go_wp2
                  go_roundw
                  case rel => exact ⟨k + 1, true, by omega, rfl, by go_num, Lib.hid (fun h => by cases h), HB⟩
                  case measure => simp [intOf]; omega
                | false =>
                  go_wp2
                  go_roundw
                  case rel => exact ⟨k + 1, co, by omega, rfl, by go_num, Lib.hid (fun h => HMo2.out (by simpa using h)), HB⟩
                  case measure => simp [intOf]; omega
              · obtain rfl : k = l.length := by omega
                have HBe := Lib.hid (HB4.out.trans (HB.out.mono HB4.out.size))
                have HW5 := Lib.hid (HW.out _ HBe.out)
                cases mo with
                | true =>
                  clear HMo
                  go_wp2_with (go_at_call 8; refine HW5.out.mono ?_; rintro e w5 ⟨rfl, q5⟩)
                  go_ret
                  exact ⟨rfl, HBe.out.trans (q5.mono HBe.out.size)⟩
                | false =>
                  have h1 : ((L.length : Int) == 1) = true := by
                    have := HND.out.2 fun i hi => HMo.out rfl i hi hi
                    rw [beq_iff_eq]
                    omega
                  clear HMo
                  go_wp2_with (go_at_call 8; refine HW5.out.mono ?_; rintro e w5 ⟨rfl, q5⟩)
                  go_ret
                  exact ⟨rfl, HBe.out.trans (q5.mono HBe.out.size)⟩
      · generalize confE l ls pt rs = G at *
        have hE' : (G == 0) = false := by simpa using hE
        go_wp2_with (go_at_call 7; refine HC2.out.mono ?_; rintro e w3 ⟨rfl, q3⟩; refine Hid.out ?_)
        refine Lib.hid ?_
        have b3 := b2.trans (q3.mono b2.size)
        have HW3 := Lib.hid (HW.out w3 b3)
        clear q3
        go_wp2_with (go_at_call 8; refine HW3.out.mono ?_; rintro e w5 ⟨rfl, q5⟩)
        go_ret
        exact ⟨rfl, b3.trans (q5.mono b3.size)⟩
    · rw [decide_eq_false hP] at HP1
      clear hP
      go_wp2_with (go_at_call 6; refine HP1.out.mono ?_; rintro e w2 ⟨rfl, q2⟩; refine Hid.out ?_)
      refine Lib.hid ?_
      have b2 := b1.trans (q2.mono b1.size)
      have HW3 := Lib.hid (HW.out w2 b2)
      go_wp2_with (go_at_call 8; refine HW3.out.mono ?_; rintro e w5 ⟨rfl, q5⟩)
      go_ret
      exact ⟨rfl, b2.trans (q5.mono b2.size)⟩
  · have HLt := Lib.hid hL
    clear hA hm0 hl hls okl okls hps htab hL
    go_enter Tryd.func3, Tryd.ntmps3
    go_wp2_with (go_at_call 5; refine HL.out.mono ?_; rintro e w1 ⟨ht, q1⟩; obtain rfl := tells_no ht HLt.out; clear ht; refine Hid.out ?_)
    refine Lib.hid ?_
    have b1 := HB0.out.trans (q1.mono HB0.out.size)
    have HW3 := Lib.hid (HW.out w1 b1)
    go_wp2_with (go_at_call 8; refine HW3.out.mono ?_; rintro e w5 ⟨rfl, q5⟩)
    go_ret
    exact ⟨rfl, b1.trans (q5.mono b1.size)⟩

end Go.Proofs.YtbkejafjlapmnabDoor
