/-
  The walk of MatchAsks.
-/
import Derived.Test.YtlcbkhmaemoahaaDoorM4
import Derived.Test.YtlcbkhmaemoahaaDoorM7
import Derived.Deep.RegionHeld3
namespace Go.Proofs.YtlcbkhmaemoahaaDoor
open Go.RowKit

/-- A matcher at a place of a list. -/
def MtAt (w : World) (b o : Nat) (m : Mt) : Prop := b < w.heap.size ∧ w.cell? ⟨b, o, none⟩ = some (.string m.1) ∧ w.cell? ⟨b, o + 1, none⟩ = some (.int .u8 (m.2.1 : Int)) ∧ w.cell? ⟨b, o + 2, none⟩ = some (.string m.2.2)
theorem MtAt.below {w w' : World} {b o : Nat} {m : Mt} {B : Nat} (h : MtAt w b o m) (hb : Below B w w') (hB : w.heap.size ≤ B) : MtAt w' b o m := by
  obtain ⟨h0, h1, h2, h3⟩ := h
  have hl : b < B := Nat.lt_of_lt_of_le h0 hB
  exact ⟨Nat.lt_of_lt_of_le h0 hb.size, by rw [hb.cell (p := ⟨b, o, none⟩) hl]; exact h1, by rw [hb.cell (p := ⟨b, o + 1, none⟩) hl]; exact h2, by rw [hb.cell (p := ⟨b, o + 2, none⟩) hl]; exact h3⟩

set_option maxRecDepth 20000 in
set_option maxHeartbeats 4000000 in
theorem asks_walk (a : Option Addr) (c : Nat) (ms : List Mt) (b : Option Addr) (d : Nat) (ps : List Pr) (w : World) (htab : TabW w) (hm : MtsAt w a ms) (hml : ms.length ≤ 9223372036854775807) (hz : ∀ m ∈ ms, m.1.size ≤ 9223372036854775807) (h : PairsAt w b ps) (hn : ps.length ≤ 9223372036854775807) :
    Calls Tryd.prog 6 #[.slice a ms.length c, .slice b ps.length d] w fun e w' => e = .returned (.bool true) ∧ Below w.heap.size w w' := by
  have htl := htab.lt
  have HW := Lib.hid (fun u (hb : Below w.heap.size w u) => mawake_any u (htab.on hb htl))
  have HL := Lib.hid (nLight_any a b ms.length c d ps w h hml hn)
  by_cases hl : LightP ms.length ps
  · rw [decide_eq_true hl] at HL
    have hv : ∀ p ∈ ps, p.2.size ≤ 9223372036854775807 := fun p hp => by have := hl.2.2 p hp; omega
    have hv2 : ∀ p ∈ ps, p.2.size ≤ 1000 := fun p hp => by have := hl.2.2 p hp; omega
    clear hl
    have HO := Lib.hid (fun (m : Mt) u (hb : Below w.heap.size w u) => mOne_any m.1 m.2.1 m.2.2 b d ps u (htab.on hb htl) (h.below hb (Nat.le_refl _)) hn hv _ rfl)
    have HR := Lib.hid (fun (m : Mt) (hmz : m.1.size ≤ 9223372036854775807) u (hb : Below w.heap.size w u) => nOne_any m.1 m.2.1 m.2.2 b d ps u hmz (h.below hb (Nat.le_refl _)) hn hv2 _ rfl)
    have HA1 := Lib.hid (fun u (hb : Below w.heap.size w u) => mAll_any a c ms b d ps u (htab.on hb htl) (hm.below hb (Nat.le_refl _)) hml (h.below hb (Nat.le_refl _)) hn hv _ rfl)
    have HA2 := Lib.hid (fun u (hb : Below w.heap.size w u) => nAll_any a c ms b d ps u (hm.below hb (Nat.le_refl _)) hml hz (h.below hb (Nat.le_refl _)) hn hv2)
    clear h hv hv2
    go_enter Tryd.func6, Tryd.ntmps6
    go_wp2_with (go_at_call 20; refine HL.out.mono ?_; rintro e w1 ⟨rfl, q1⟩)
    go_loopw [5] (fun i wr => ∃ k : Nat, k ≤ ms.length ∧ i = .int .i64 k ∧ Below w.heap.size w wr) (fun i _ => ms.length - (intOf i).toNat)
    case atStart => exact ⟨0, Nat.zero_le _, rfl, q1⟩
    case round =>
      clear q1
      obtain ⟨k, hk, rfl, hb⟩ := hrel
      by_cases hlt : k < ms.length
      · have hkl : (k : Int) < (ms.length : Int) := by omega
        obtain ⟨mb, mo, rfl, hmb, hc⟩ := hm (by omega)
        obtain ⟨d0, d1, d2⟩ := hc k hlt
        have hat : MtAt wr mb (mo + k * 3) ms[k] := MtAt.below (w := w) ⟨hmb, d0, d1, d2⟩ hb (Nat.le_refl _)
        have hzk := hz _ (List.getElem_mem hlt)
        clear hc hm hz d0 d1 d2 HA1 HA2 HL
        generalize ms[k] = m at *
        by_cases hq : mAsk ps m
        · have H1 : Hid (∀ u, Below w.heap.size w u → Calls Tryd.prog 21 #[.agg #[.string m.1, .int .u8 (m.2.1 : Int), .string m.2.2], .slice b ps.length d] u fun e w' => e = .returned (.bool true) ∧ Below u.heap.size u w') := Lib.hid (fun u hu => (HO.out m u hu).mono fun e w' ⟨ht, hb⟩ => ⟨tells_yes ht hq, hb⟩)
          have H2 : Hid (∀ u, Below w.heap.size w u → Calls Tryd.prog 22 #[.agg #[.string m.1, .int .u8 (m.2.1 : Int), .string m.2.2], .slice b ps.length d] u fun e w' => e = .returned (.bool true) ∧ Below u.heap.size u w') := Lib.hid (fun u hu => (HR.out m hzk u hu).mono fun e w' ⟨ht, hb⟩ => ⟨tells_yes ht hq, hb⟩)
          clear hq HO HR
          obtain ⟨n, o, v⟩ := m
          simp only at H1 H2
          go_wp2_with fail
          refine wp_region_any (by kernel_rfl) ?_
          change wpAny _ _ _ _ _ _ _ (World.drew _)
          have hS : (fun w' : World => MtAt w' mb (mo + k * 3) (n, o, v)) wr.drew := hat
          refine wpAny_of_held (S := fun w' => MtAt w' mb (mo + k * 3) (n, o, v)) _ _ _ _ ?_
          refine wpAnyH_take (i := 0) (v := ?_) rfl (by as_aux_lemma => kernel_rfl) (by as_aux_lemma => kernel_rfl) (by as_aux_lemma => kernel_rfl) (fun _ _ _ h => h) (Or.inl ⟨by kernel_rfl, ?_⟩) hS ?_
          rotate_left
          · intro w hSw; obtain ⟨-, c0, c1, c2⟩ := hSw; go_simp
            first | done | with_reducible rfl
          skip
          refine wpAnyH_take (i := 1) (v := ?_) rfl (by as_aux_lemma => kernel_rfl) (by as_aux_lemma => kernel_rfl) (by as_aux_lemma => kernel_rfl) (fun _ _ _ h => h) (Or.inl ⟨by kernel_rfl, ?_⟩) hS ?_
          rotate_left
          · intro w hSw; obtain ⟨-, c0, c1, c2⟩ := hSw; go_simp
            first | done | with_reducible rfl
          skip
          refine wpAnyH_take (i := 2) (v := ?_) rfl (by as_aux_lemma => kernel_rfl) (by as_aux_lemma => kernel_rfl) (by as_aux_lemma => kernel_rfl) (fun _ _ _ h => h) (Or.inl ⟨by kernel_rfl, ?_⟩) hS ?_
          rotate_left
          · intro w hSw; obtain ⟨-, c0, c1, c2⟩ := hSw; go_simp
            first | done | with_reducible rfl
          skip
          refine wpAnyH_take (i := 3) (v := ?_) rfl (by as_aux_lemma => kernel_rfl) (by as_aux_lemma => kernel_rfl) (by as_aux_lemma => kernel_rfl) (fun _ _ _ h => h) (Or.inl ⟨by kernel_rfl, ?_⟩) hS ?_
          rotate_left
          · intro w hSw; obtain ⟨-, c0, c1, c2⟩ := hSw; go_simp
            first | done | with_reducible rfl
          skip
          refine wpAnyH_take (i := 4) (v := ?_) rfl (by as_aux_lemma => kernel_rfl) (by as_aux_lemma => kernel_rfl) (by as_aux_lemma => kernel_rfl) (fun _ _ _ h => h) (Or.inl ⟨by kernel_rfl, ?_⟩) hS ?_
          rotate_left
          · intro w hSw; obtain ⟨-, c0, c1, c2⟩ := hSw; go_simp
            first | done | with_reducible rfl
          skip
          refine wpAnyH_take (i := 6) (v := ?_) rfl (by as_aux_lemma => kernel_rfl) (by as_aux_lemma => kernel_rfl) (by as_aux_lemma => kernel_rfl) (fun _ _ _ h => h) (Or.inl ⟨by kernel_rfl, ?_⟩) hS ?_
          rotate_left
          · intro w hSw; obtain ⟨-, c0, c1, c2⟩ := hSw; go_simp
            first | done | with_reducible rfl
          skip
          refine wpAnyH_take (i := 7) (v := ?_) rfl (by as_aux_lemma => kernel_rfl) (by as_aux_lemma => kernel_rfl) (by as_aux_lemma => kernel_rfl) (fun _ _ _ h => h) (Or.inl ⟨by kernel_rfl, ?_⟩) hS ?_
          rotate_left
          · intro w hSw; obtain ⟨-, c0, c1, c2⟩ := hSw; go_simp
            first | done | with_reducible rfl
          skip
          refine wpAnyH_take (i := 8) (v := ?_) rfl (by as_aux_lemma => kernel_rfl) (by as_aux_lemma => kernel_rfl) (by as_aux_lemma => kernel_rfl) (fun _ _ _ h => h) (Or.inl ⟨by kernel_rfl, ?_⟩) hS ?_
          rotate_left
          · intro w hSw; obtain ⟨-, c0, c1, c2⟩ := hSw; go_simp
            first | done | with_reducible rfl
          skip
          refine wpAnyH_take (i := 9) (v := ?_) rfl (by as_aux_lemma => kernel_rfl) (by as_aux_lemma => kernel_rfl) (by as_aux_lemma => kernel_rfl) (fun _ _ _ h => h) (Or.inl ⟨by kernel_rfl, ?_⟩) hS ?_
          rotate_left
          · intro w hSw; obtain ⟨-, c0, c1, c2⟩ := hSw; go_simp
            first | done | with_reducible rfl
          skip
          refine wpAnyH_take (i := 10) (v := ?_) rfl (by as_aux_lemma => kernel_rfl) (by as_aux_lemma => kernel_rfl) (by as_aux_lemma => kernel_rfl) (fun _ _ _ h => h) (Or.inl ⟨by kernel_rfl, ?_⟩) hS ?_
          rotate_left
          · intro w hSw; obtain ⟨-, c0, c1, c2⟩ := hSw; go_simp
            first | done | with_reducible rfl
          skip
          refine wpAnyH_ready (rs := [5]) (by as_aux_lemma => kernel_rfl) (by simp) ?_
          refine AllReadyH.cons rfl (fun K hK => ?_) AllReadyH.nil
          go_simp
          go_wp2_with (go_at_call 21; refine (H1.out _ hb.drew).mono ?_; rintro e w2 ⟨rfl, q2⟩; have b2 := hb.drew.trans (q2.mono hb.size))
          refine hK.out _ _ ?_ (fun hS => ?_)
          · exact hS.below q2 (Nat.le_refl _)
          clear hK K
          refine wpAnyH_ready (rs := [11]) (by as_aux_lemma => kernel_rfl) (by simp) ?_
          refine AllReadyH.cons rfl (fun K hK => ?_) AllReadyH.nil
          go_simp
          go_wp2_with (go_at_call 22; refine (H2.out _ b2).mono ?_; rintro e w3 ⟨rfl, q3⟩; have b3 := b2.trans (q3.mono b2.size))
          refine hK.out _ _ ?_ (fun hS => ?_)
          · exact hS.below q3 (Nat.le_refl _)
          clear hK K
          refine wpAnyH_take (i := 12) (v := ?_) rfl (by as_aux_lemma => kernel_rfl) (by as_aux_lemma => kernel_rfl) (by as_aux_lemma => kernel_rfl) (fun _ _ _ h => h) (Or.inl ⟨by kernel_rfl, ?_⟩) hS ?_
          rotate_left
          · intro w hSw; obtain ⟨-, c0, c1, c2⟩ := hSw; go_simp
            first | done | with_reducible rfl
          skip
          refine wpAnyH_done (by kernel_rfl) ?_ _
          go_wp2
          go_roundw
          case rel => exact ⟨k + 1, by omega, by go_num, b3⟩
          case measure => simp [intOf]; omega
        · have H1 : Hid (∀ u, Below w.heap.size w u → Calls Tryd.prog 21 #[.agg #[.string m.1, .int .u8 (m.2.1 : Int), .string m.2.2], .slice b ps.length d] u fun e w' => e = .returned (.bool false) ∧ Below u.heap.size u w') := Lib.hid (fun u hu => (HO.out m u hu).mono fun e w' ⟨ht, hb⟩ => ⟨tells_no ht hq, hb⟩)
          have H2 : Hid (∀ u, Below w.heap.size w u → Calls Tryd.prog 22 #[.agg #[.string m.1, .int .u8 (m.2.1 : Int), .string m.2.2], .slice b ps.length d] u fun e w' => e = .returned (.bool false) ∧ Below u.heap.size u w') := Lib.hid (fun u hu => (HR.out m hzk u hu).mono fun e w' ⟨ht, hb⟩ => ⟨tells_no ht hq, hb⟩)
          clear hq HO HR
          obtain ⟨n, o, v⟩ := m
          simp only at H1 H2
          go_wp2_with fail
          refine wp_region_any (by kernel_rfl) ?_
          change wpAny _ _ _ _ _ _ _ (World.drew _)
          have hS : (fun w' : World => MtAt w' mb (mo + k * 3) (n, o, v)) wr.drew := hat
          refine wpAny_of_held (S := fun w' => MtAt w' mb (mo + k * 3) (n, o, v)) _ _ _ _ ?_
          refine wpAnyH_take (i := 0) (v := ?_) rfl (by as_aux_lemma => kernel_rfl) (by as_aux_lemma => kernel_rfl) (by as_aux_lemma => kernel_rfl) (fun _ _ _ h => h) (Or.inl ⟨by kernel_rfl, ?_⟩) hS ?_
          rotate_left
          · intro w hSw; obtain ⟨-, c0, c1, c2⟩ := hSw; go_simp
            first | done | with_reducible rfl
          skip
          refine wpAnyH_take (i := 1) (v := ?_) rfl (by as_aux_lemma => kernel_rfl) (by as_aux_lemma => kernel_rfl) (by as_aux_lemma => kernel_rfl) (fun _ _ _ h => h) (Or.inl ⟨by kernel_rfl, ?_⟩) hS ?_
          rotate_left
          · intro w hSw; obtain ⟨-, c0, c1, c2⟩ := hSw; go_simp
            first | done | with_reducible rfl
          skip
          refine wpAnyH_take (i := 2) (v := ?_) rfl (by as_aux_lemma => kernel_rfl) (by as_aux_lemma => kernel_rfl) (by as_aux_lemma => kernel_rfl) (fun _ _ _ h => h) (Or.inl ⟨by kernel_rfl, ?_⟩) hS ?_
          rotate_left
          · intro w hSw; obtain ⟨-, c0, c1, c2⟩ := hSw; go_simp
            first | done | with_reducible rfl
          skip
          refine wpAnyH_take (i := 3) (v := ?_) rfl (by as_aux_lemma => kernel_rfl) (by as_aux_lemma => kernel_rfl) (by as_aux_lemma => kernel_rfl) (fun _ _ _ h => h) (Or.inl ⟨by kernel_rfl, ?_⟩) hS ?_
          rotate_left
          · intro w hSw; obtain ⟨-, c0, c1, c2⟩ := hSw; go_simp
            first | done | with_reducible rfl
          skip
          refine wpAnyH_take (i := 4) (v := ?_) rfl (by as_aux_lemma => kernel_rfl) (by as_aux_lemma => kernel_rfl) (by as_aux_lemma => kernel_rfl) (fun _ _ _ h => h) (Or.inl ⟨by kernel_rfl, ?_⟩) hS ?_
          rotate_left
          · intro w hSw; obtain ⟨-, c0, c1, c2⟩ := hSw; go_simp
            first | done | with_reducible rfl
          skip
          refine wpAnyH_take (i := 6) (v := ?_) rfl (by as_aux_lemma => kernel_rfl) (by as_aux_lemma => kernel_rfl) (by as_aux_lemma => kernel_rfl) (fun _ _ _ h => h) (Or.inl ⟨by kernel_rfl, ?_⟩) hS ?_
          rotate_left
          · intro w hSw; obtain ⟨-, c0, c1, c2⟩ := hSw; go_simp
            first | done | with_reducible rfl
          skip
          refine wpAnyH_take (i := 7) (v := ?_) rfl (by as_aux_lemma => kernel_rfl) (by as_aux_lemma => kernel_rfl) (by as_aux_lemma => kernel_rfl) (fun _ _ _ h => h) (Or.inl ⟨by kernel_rfl, ?_⟩) hS ?_
          rotate_left
          · intro w hSw; obtain ⟨-, c0, c1, c2⟩ := hSw; go_simp
            first | done | with_reducible rfl
          skip
          refine wpAnyH_take (i := 8) (v := ?_) rfl (by as_aux_lemma => kernel_rfl) (by as_aux_lemma => kernel_rfl) (by as_aux_lemma => kernel_rfl) (fun _ _ _ h => h) (Or.inl ⟨by kernel_rfl, ?_⟩) hS ?_
          rotate_left
          · intro w hSw; obtain ⟨-, c0, c1, c2⟩ := hSw; go_simp
            first | done | with_reducible rfl
          skip
          refine wpAnyH_take (i := 9) (v := ?_) rfl (by as_aux_lemma => kernel_rfl) (by as_aux_lemma => kernel_rfl) (by as_aux_lemma => kernel_rfl) (fun _ _ _ h => h) (Or.inl ⟨by kernel_rfl, ?_⟩) hS ?_
          rotate_left
          · intro w hSw; obtain ⟨-, c0, c1, c2⟩ := hSw; go_simp
            first | done | with_reducible rfl
          skip
          refine wpAnyH_take (i := 10) (v := ?_) rfl (by as_aux_lemma => kernel_rfl) (by as_aux_lemma => kernel_rfl) (by as_aux_lemma => kernel_rfl) (fun _ _ _ h => h) (Or.inl ⟨by kernel_rfl, ?_⟩) hS ?_
          rotate_left
          · intro w hSw; obtain ⟨-, c0, c1, c2⟩ := hSw; go_simp
            first | done | with_reducible rfl
          skip
          refine wpAnyH_ready (rs := [5]) (by as_aux_lemma => kernel_rfl) (by simp) ?_
          refine AllReadyH.cons rfl (fun K hK => ?_) AllReadyH.nil
          go_simp
          go_wp2_with (go_at_call 21; refine (H1.out _ hb.drew).mono ?_; rintro e w2 ⟨rfl, q2⟩; have b2 := hb.drew.trans (q2.mono hb.size))
          refine hK.out _ _ ?_ (fun hS => ?_)
          · exact hS.below q2 (Nat.le_refl _)
          clear hK K
          refine wpAnyH_ready (rs := [11]) (by as_aux_lemma => kernel_rfl) (by simp) ?_
          refine AllReadyH.cons rfl (fun K hK => ?_) AllReadyH.nil
          go_simp
          go_wp2_with (go_at_call 22; refine (H2.out _ b2).mono ?_; rintro e w3 ⟨rfl, q3⟩; have b3 := b2.trans (q3.mono b2.size))
          refine hK.out _ _ ?_ (fun hS => ?_)
          · exact hS.below q3 (Nat.le_refl _)
          clear hK K
          refine wpAnyH_take (i := 12) (v := ?_) rfl (by as_aux_lemma => kernel_rfl) (by as_aux_lemma => kernel_rfl) (by as_aux_lemma => kernel_rfl) (fun _ _ _ h => h) (Or.inl ⟨by kernel_rfl, ?_⟩) hS ?_
          rotate_left
          · intro w hSw; obtain ⟨-, c0, c1, c2⟩ := hSw; go_simp
            first | done | with_reducible rfl
          skip
          refine wpAnyH_done (by kernel_rfl) ?_ _
          go_wp2
          go_roundw
          case rel => exact ⟨k + 1, by omega, by go_num, b3⟩
          case measure => simp [intOf]; omega
      · obtain rfl : k = ms.length := by omega
        have hki : ¬ (ms.length : Int) < (ms.length : Int) := by omega
        have H1 := Lib.hid (HA1.out wr hb)
        clear HA1 HL HO HR
        by_cases hq : ∀ m ∈ ms, mAsk ps m
        · go_wp2_with (go_at_call 23; refine H1.out.mono ?_; rintro e w2 ⟨ht, q2⟩; obtain rfl := tells_yes ht hq; clear ht; refine Hid.out ?_)
          refine Lib.hid ?_
          have b2 := hb.trans (q2.mono hb.size)
          have H2 := Lib.hid (HA2.out w2 b2)
          go_wp2_with (go_at_call 24; refine H2.out.mono ?_; rintro e w3 ⟨ht, q3⟩; obtain rfl := tells_yes ht hq; clear ht; refine Hid.out ?_)
          refine Lib.hid ?_
          have b3 := b2.trans (q3.mono b2.size)
          have HW1 := Lib.hid (HW.out w3 b3)
          go_wp2_with (go_at_call 15; refine HW1.out.mono ?_; rintro e w4 ⟨rfl, q4⟩)
          go_ret
          exact ⟨rfl, b3.trans (q4.mono b3.size)⟩
        · go_wp2_with (go_at_call 23; refine H1.out.mono ?_; rintro e w2 ⟨ht, q2⟩; obtain rfl := tells_no ht hq; clear ht; refine Hid.out ?_)
          refine Lib.hid ?_
          have b2 := hb.trans (q2.mono hb.size)
          have H2 := Lib.hid (HA2.out w2 b2)
          go_wp2_with (go_at_call 24; refine H2.out.mono ?_; rintro e w3 ⟨ht, q3⟩; obtain rfl := tells_no ht hq; clear ht; refine Hid.out ?_)
          refine Lib.hid ?_
          have b3 := b2.trans (q3.mono b2.size)
          have HW1 := Lib.hid (HW.out w3 b3)
          go_wp2_with (go_at_call 15; refine HW1.out.mono ?_; rintro e w4 ⟨rfl, q4⟩)
          go_ret
          exact ⟨rfl, b3.trans (q4.mono b3.size)⟩
  · rw [decide_eq_false hl] at HL
    clear hl
    go_enter Tryd.func6, Tryd.ntmps6
    go_wp2_with (go_at_call 20; refine HL.out.mono ?_; rintro e w1 ⟨rfl, q1⟩; refine Hid.out ?_)
    refine Lib.hid ?_
    have HW1 := Lib.hid (HW.out w1 q1)
    go_wp2_with (go_at_call 15; refine HW1.out.mono ?_; rintro e w2 ⟨rfl, q2⟩)
    go_ret
    exact ⟨rfl, q1.trans (q2.mono q1.size)⟩

end Go.Proofs.YtlcbkhmaemoahaaDoor
