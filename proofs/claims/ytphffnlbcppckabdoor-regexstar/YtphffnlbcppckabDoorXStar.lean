/-
  The walk of RegexStar.
-/
import Derived.Test.YtphffnlbcppckabDoorXBoth
namespace Go.Proofs.YtphffnlbcppckabDoor
open Go.RowKit

theorem PatAt.as {w : World} {xb : Nat} {A B : Lang} (h : PatAt w xb A) (e : ∀ s, A s ↔ B s) : PatAt w xb B := by
  obtain ⟨Bs, v, P, pl, h1, h2⟩ := h
  exact ⟨Bs, v, P, pl, h1, h2.as e⟩
theorem match_bool (xb : Nat) (A : Lang) (t : ByteArray) (w : World) (h : PatAt w xb A) (hts : t.size ≤ 9223372036854775807) (htab : TabW w) (b : Bool) (hb : b = true ↔ A t.data.toList) :
    Calls Tryd.prog 7 #[.pointer (some ⟨xb, 0, none⟩), .string t] w fun e w' => e = .returned (.bool b) ∧ w' = w :=
  (match_pat xb A t w h hts htab).mono fun e w' ⟨⟨c, h1, h2⟩, h3⟩ => ⟨by
    obtain rfl : c = b := by rw [Bool.eq_iff_iff, h2, hb]
    exact h1, h3⟩
/-- Whether something is so, as a bool. -/
theorem bool_of (p : Prop) : ∃ b : Bool, b = true ↔ p := by
  by_cases h : p
  · exact ⟨true, fun _ => h, fun _ => rfl⟩
  · exact ⟨false, (fun e => by cases e), fun e => absurd e h⟩

set_option maxRecDepth 20000 in
set_option maxHeartbeats 8000000 in
theorem star_walk (p s t : ByteArray) (w : World) (hss : s.size ≤ 9223372036854775807) (hts : t.size ≤ 9223372036854775807) (htab : TabW w) : Calls Tryd.prog 3 #[.string p, .string s, .string t] w fun e w' => e = .returned (.bool true) ∧ Below w.heap.size w w' := by
  have htl := htab.lt
  have HA := Lib.hid (awake_any w htab)
  by_cases h1 : 30 < s.size
  · have h1' : (30 : Int) < (s.size : Int) := by omega
    go_enter Tryd.func3, Tryd.ntmps3
    go_wp2_with (go_at_call 5; refine HA.out.mono ?_; rintro e w1 ⟨rfl, hb1⟩)
    go_ret
    exact ⟨rfl, hb1⟩
  have h1' : ¬ (30 : Int) < (s.size : Int) := by omega
  by_cases h2 : 30 < t.size
  · have h2' : (30 : Int) < (t.size : Int) := by omega
    go_enter Tryd.func3, Tryd.ntmps3
    go_wp2_with (go_at_call 5; refine HA.out.mono ?_; rintro e w1 ⟨rfl, hb1⟩)
    go_ret
    exact ⟨rfl, hb1⟩
  have h2' : ¬ (30 : Int) < (t.size : Int) := by omega
  by_cases h3 : 60 < p.size
  · have h3' : (60 : Int) < (p.size : Int) := by omega
    go_enter Tryd.func3, Tryd.ntmps3
    go_wp2_with (go_at_call 5; refine HA.out.mono ?_; rintro e w1 ⟨rfl, hb1⟩)
    go_ret
    exact ⟨rfl, hb1⟩
  have h3' : ¬ (60 : Int) < (p.size : Int) := by omega
  clear HA
  by_cases hep : errE p.data.toList = 0
  · obtain ⟨hl1, A, hpA⟩ := errE_zero hep
    obtain ⟨S, hS1, hS2⟩ := parse_star hpA
    obtain ⟨Q, hQ1, hQ2⟩ := parse_plus hpA
    obtain ⟨O, hO1, hO2⟩ := parse_opt hpA
    have H1 := Lib.hid (comp_ok p w htab hep A hpA)
    have H2 := Lib.hid (fun u (hu : TabW u) => comp_good (⟨#[40]⟩ ++ p ++ ⟨#[41, 42]⟩) u (by simp [ByteArray.size_append, ba_size]; omega) hu S (by simp only [app_list, List.append_assoc]; exact hS1))
    have H3 := Lib.hid (fun u (hu : TabW u) => comp_good (⟨#[40]⟩ ++ p ++ ⟨#[41, 43]⟩) u (by simp [ByteArray.size_append, ba_size]; omega) hu Q (by simp only [app_list, List.append_assoc]; exact hQ1))
    have H4 := Lib.hid (fun u (hu : TabW u) => comp_good (⟨#[40]⟩ ++ p ++ ⟨#[41, 63]⟩) u (by simp [ByteArray.size_append, ba_size]; omega) hu O (by simp only [app_list, List.append_assoc]; exact hO1))
    have HL := Lib.hid (And.intro hS2 (And.intro hQ2 hO2))
    clear hep hpA hS1 hS2 hQ1 hQ2 hO1 hO2 hl1
    go_enter Tryd.func3, Tryd.ntmps3
    go_wp2_with (go_at_call 6; refine H1.out.mono ?_; rintro e w1 ⟨xa, rfl, pa, hb1⟩; refine Hid.out ?_)
    refine Lib.hid ?_
    have ht1 := htab.on hb1 htl
    go_wp2_with (go_at_call 6; refine (H2.out w1 ht1).mono ?_; rintro e w2 ⟨xs, rfl, ps0, hb2⟩; refine Hid.out ?_)
    refine Lib.hid ?_
    have ht2 := ht1.on hb2 ht1.lt
    go_wp2_with (go_at_call 6; refine (H3.out w2 ht2).mono ?_; rintro e w3 ⟨xp, rfl, pp0, hb3⟩; refine Hid.out ?_)
    refine Lib.hid ?_
    have ht3 := ht2.on hb3 ht2.lt
    go_wp2_with (go_at_call 6; refine (H4.out w3 ht3).mono ?_; rintro e w4 ⟨xo, rfl, po0, hb4⟩; refine Hid.out ?_)
    refine Lib.hid ?_
    have ht4 := ht3.on hb4 ht3.lt
    have hbb := ((hb1.trans (hb2.mono hb1.size)).trans (hb3.mono (Nat.le_trans hb1.size hb2.size))).trans (hb4.mono (Nat.le_trans (Nat.le_trans hb1.size hb2.size) hb3.size))
    have HW := Lib.hid (awake_any w4 ht4)
    have pA := ((pa.below hb2).below hb3).below hb4
    have pS := ((ps0.below hb3).below hb4).as HL.out.1
    have pP := (pp0.below hb4).as HL.out.2.1
    have pO := po0.as HL.out.2.2
    clear pa ps0 pp0 po0 H1 H2 H3 H4 HL ht1 ht2 ht3 hb1 hb2 hb3 hb4
    have hst : (s ++ t).size ≤ 9223372036854775807 := by rw [ByteArray.size_append]; omega
    have hel : (s ++ t).data.toList = s.data.toList ++ t.data.toList := app_list s t
    have hse : s.toList.isEmpty = true ↔ s.data.toList = [] := by rw [ByteArray.toList_eq, List.isEmpty_iff]
    obtain ⟨xe, hxe⟩ := bool_of (A [])
    obtain ⟨a, ha⟩ := bool_of (A s.data.toList)
    obtain ⟨b, hb⟩ := bool_of (A t.data.toList)
    obtain ⟨ss, hss'⟩ := bool_of (optL (PlusL A) s.data.toList)
    obtain ⟨st, hst'⟩ := bool_of (optL (PlusL A) t.data.toList)
    obtain ⟨sst, hsst⟩ := bool_of (optL (PlusL A) (s.data.toList ++ t.data.toList))
    obtain ⟨ps, hps⟩ := bool_of (PlusL A s.data.toList)
    obtain ⟨pst, hpst⟩ := bool_of (PlusL A (s.data.toList ++ t.data.toList))
    have HS_e := Lib.hid (match_bool xs _ ⟨#[]⟩ w4 pS (by decide) ht4 true ⟨fun _ => .inl rfl, fun _ => rfl⟩)
    have HO_e := Lib.hid (match_bool xo _ ⟨#[]⟩ w4 pO (by decide) ht4 true ⟨fun _ => .inl rfl, fun _ => rfl⟩)
    have HP_e := Lib.hid (match_bool xp _ ⟨#[]⟩ w4 pP (by decide) ht4 xe (hxe.trans PlusL.nil.symm))
    have HX_e := Lib.hid (match_bool xa _ ⟨#[]⟩ w4 pA (by decide) ht4 xe hxe)
    have HX_s := Lib.hid (match_bool xa _ s w4 pA hss ht4 a ha)
    have HX_t := Lib.hid (match_bool xa _ t w4 pA hts ht4 b hb)
    have HO_s := Lib.hid (match_bool xo _ s w4 pO hss ht4 (a || s.toList.isEmpty) (by rw [Bool.or_eq_true, ha, hse]; exact or_comm))
    have HS_s := Lib.hid (match_bool xs _ s w4 pS hss ht4 ss hss')
    have HS_t := Lib.hid (match_bool xs _ t w4 pS hts ht4 st hst')
    have HS_st := Lib.hid (match_bool xs _ (s ++ t) w4 pS hst ht4 sst (by rw [hel]; exact hsst))
    have HP_s := Lib.hid (match_bool xp _ s w4 pP hss ht4 ps hps)
    have HP_st := Lib.hid (match_bool xp _ (s ++ t) w4 pP hst ht4 pst (by rw [hel]; exact hpst))
    have F1 : Hid (a = true → ss = true ∧ ps = true) := Lib.hid fun h => ⟨hss'.2 (.inr (.one (ha.1 h))), hps.2 (.one (ha.1 h))⟩
    have F2 : Hid (ps = true → ss = true) := Lib.hid fun h => hss'.2 (.inr (hps.1 h))
    have F3 : Hid (ss = true → st = true → sst = true) := Lib.hid fun h1 h2 => hsst.2 (by
      rcases hss'.1 h1 with h1 | h1
      · rw [h1]; exact hst'.1 h2
      · rcases hst'.1 h2 with h2 | h2
        · rw [h2, List.append_nil]; exact .inr h1
        · exact .inr (h1.app h2))
    have F4 : Hid (a = true → b = true → pst = true) := Lib.hid fun h1 h2 => hpst.2 (.more (ha.1 h1) (.one (hb.1 h2)))
    clear hxe ha hb hss' hst' hsst hps hpst hse hel pA pS pP pO hst
    go_wp2_with (go_at_call 7; refine (HS_e.out).mono ?_; rintro e w5 ⟨rfl, hw5⟩; rw [hw5]; clear hw5; refine Hid.out ?_)
    refine Lib.hid ?_
    go_wp2_with (go_at_call 7; refine (HO_e.out).mono ?_; rintro e w5 ⟨rfl, hw5⟩; rw [hw5]; clear hw5; refine Hid.out ?_)
    refine Lib.hid ?_
    go_wp2_with (go_at_call 7; refine (HP_e.out).mono ?_; rintro e w5 ⟨rfl, hw5⟩; rw [hw5]; clear hw5; refine Hid.out ?_)
    refine Lib.hid ?_
    go_wp2_with (go_at_call 7; refine (HX_e.out).mono ?_; rintro e w5 ⟨rfl, hw5⟩; rw [hw5]; clear hw5; refine Hid.out ?_)
    refine Lib.hid ?_
    cases xe
    all_goals
      go_wp2_with (go_at_call 7; refine (HX_s.out).mono ?_; rintro e w5 ⟨rfl, hw5⟩; rw [hw5]; clear hw5; refine Hid.out ?_)
      refine Lib.hid ?_
      go_wp2_with (go_at_call 7; refine (HX_t.out).mono ?_; rintro e w5 ⟨rfl, hw5⟩; rw [hw5]; clear hw5; refine Hid.out ?_)
      refine Lib.hid ?_
      go_wp2_with (go_at_call 7; refine (HO_s.out).mono ?_; rintro e w5 ⟨rfl, hw5⟩; rw [hw5]; clear hw5; refine Hid.out ?_)
      refine Lib.hid ?_
      cases a with
      | false =>
        rw [Bool.false_or]
        cases hz : s.toList.isEmpty
        all_goals
          cases ss with
          | false =>
            obtain rfl : ps = false := Bool.eq_false_iff.2 fun h => by cases F2.out h
            clear F1 F2 F3 F4
            go_wp2_with (go_at_call 7; refine (HS_s.out).mono ?_; rintro e w5 ⟨rfl, hw5⟩; rw [hw5]; clear hw5; refine Hid.out ?_)
            refine Lib.hid ?_
            go_wp2_with (go_at_call 7; refine (HP_s.out).mono ?_; rintro e w5 ⟨rfl, hw5⟩; rw [hw5]; clear hw5; refine Hid.out ?_)
            refine Lib.hid ?_
            go_wp2_with (go_at_call 5; refine HW.out.mono ?_; rintro e w5 ⟨rfl, hb5⟩)
            go_ret
            exact ⟨rfl, hbb.trans (hb5.mono hbb.size)⟩
          | true =>
            cases st with
            | false =>
              clear F1 F2 F3 F4
              cases ps with
              | false =>
                go_wp2_with (go_at_call 7; refine (HS_s.out).mono ?_; rintro e w5 ⟨rfl, hw5⟩; rw [hw5]; clear hw5; refine Hid.out ?_)
                refine Lib.hid ?_
                go_wp2_with (go_at_call 7; refine (HS_t.out).mono ?_; rintro e w5 ⟨rfl, hw5⟩; rw [hw5]; clear hw5; refine Hid.out ?_)
                refine Lib.hid ?_
                go_wp2_with (go_at_call 7; refine (HP_s.out).mono ?_; rintro e w5 ⟨rfl, hw5⟩; rw [hw5]; clear hw5; refine Hid.out ?_)
                refine Lib.hid ?_
                go_wp2_with (go_at_call 5; refine HW.out.mono ?_; rintro e w5 ⟨rfl, hb5⟩)
                go_ret
                exact ⟨rfl, hbb.trans (hb5.mono hbb.size)⟩
              | true =>
                go_wp2_with (go_at_call 7; refine (HS_s.out).mono ?_; rintro e w5 ⟨rfl, hw5⟩; rw [hw5]; clear hw5; refine Hid.out ?_)
                refine Lib.hid ?_
                go_wp2_with (go_at_call 7; refine (HS_t.out).mono ?_; rintro e w5 ⟨rfl, hw5⟩; rw [hw5]; clear hw5; refine Hid.out ?_)
                refine Lib.hid ?_
                go_wp2_with (go_at_call 7; refine (HP_s.out).mono ?_; rintro e w5 ⟨rfl, hw5⟩; rw [hw5]; clear hw5; refine Hid.out ?_)
                refine Lib.hid ?_
                go_wp2_with (go_at_call 7; refine (HS_s.out).mono ?_; rintro e w5 ⟨rfl, hw5⟩; rw [hw5]; clear hw5; refine Hid.out ?_)
                refine Lib.hid ?_
                go_wp2_with (go_at_call 5; refine HW.out.mono ?_; rintro e w5 ⟨rfl, hb5⟩)
                go_ret
                exact ⟨rfl, hbb.trans (hb5.mono hbb.size)⟩
            | true =>
              obtain rfl := F3.out (by simp) (by simp)
              clear F1 F2 F3 F4
              cases ps with
              | false =>
                go_wp2_with (go_at_call 7; refine (HS_s.out).mono ?_; rintro e w5 ⟨rfl, hw5⟩; rw [hw5]; clear hw5; refine Hid.out ?_)
                refine Lib.hid ?_
                go_wp2_with (go_at_call 7; refine (HS_t.out).mono ?_; rintro e w5 ⟨rfl, hw5⟩; rw [hw5]; clear hw5; refine Hid.out ?_)
                refine Lib.hid ?_
                go_wp2_with (go_at_call 7; refine (HS_st.out).mono ?_; rintro e w5 ⟨rfl, hw5⟩; rw [hw5]; clear hw5; refine Hid.out ?_)
                refine Lib.hid ?_
                go_wp2_with (go_at_call 7; refine (HP_s.out).mono ?_; rintro e w5 ⟨rfl, hw5⟩; rw [hw5]; clear hw5; refine Hid.out ?_)
                refine Lib.hid ?_
                go_wp2_with (go_at_call 5; refine HW.out.mono ?_; rintro e w5 ⟨rfl, hb5⟩)
                go_ret
                exact ⟨rfl, hbb.trans (hb5.mono hbb.size)⟩
              | true =>
                go_wp2_with (go_at_call 7; refine (HS_s.out).mono ?_; rintro e w5 ⟨rfl, hw5⟩; rw [hw5]; clear hw5; refine Hid.out ?_)
                refine Lib.hid ?_
                go_wp2_with (go_at_call 7; refine (HS_t.out).mono ?_; rintro e w5 ⟨rfl, hw5⟩; rw [hw5]; clear hw5; refine Hid.out ?_)
                refine Lib.hid ?_
                go_wp2_with (go_at_call 7; refine (HS_st.out).mono ?_; rintro e w5 ⟨rfl, hw5⟩; rw [hw5]; clear hw5; refine Hid.out ?_)
                refine Lib.hid ?_
                go_wp2_with (go_at_call 7; refine (HP_s.out).mono ?_; rintro e w5 ⟨rfl, hw5⟩; rw [hw5]; clear hw5; refine Hid.out ?_)
                refine Lib.hid ?_
                go_wp2_with (go_at_call 7; refine (HS_s.out).mono ?_; rintro e w5 ⟨rfl, hw5⟩; rw [hw5]; clear hw5; refine Hid.out ?_)
                refine Lib.hid ?_
                go_wp2_with (go_at_call 5; refine HW.out.mono ?_; rintro e w5 ⟨rfl, hb5⟩)
                go_ret
                exact ⟨rfl, hbb.trans (hb5.mono hbb.size)⟩
      | true =>
        obtain ⟨rfl, rfl⟩ := F1.out rfl
        rw [Bool.true_or]
        go_wp2_with (go_at_call 7; refine (HS_s.out).mono ?_; rintro e w5 ⟨rfl, hw5⟩; rw [hw5]; clear hw5; refine Hid.out ?_)
        refine Lib.hid ?_
        go_wp2_with (go_at_call 7; refine (HP_s.out).mono ?_; rintro e w5 ⟨rfl, hw5⟩; rw [hw5]; clear hw5; refine Hid.out ?_)
        refine Lib.hid ?_
        cases st with
        | false =>
          cases b with
          | false =>
            clear F1 F2 F3 F4
            go_wp2_with (go_at_call 7; refine (HS_s.out).mono ?_; rintro e w5 ⟨rfl, hw5⟩; rw [hw5]; clear hw5; refine Hid.out ?_)
            refine Lib.hid ?_
            go_wp2_with (go_at_call 7; refine (HS_t.out).mono ?_; rintro e w5 ⟨rfl, hw5⟩; rw [hw5]; clear hw5; refine Hid.out ?_)
            refine Lib.hid ?_
            go_wp2_with (go_at_call 7; refine (HP_s.out).mono ?_; rintro e w5 ⟨rfl, hw5⟩; rw [hw5]; clear hw5; refine Hid.out ?_)
            refine Lib.hid ?_
            go_wp2_with (go_at_call 7; refine (HS_s.out).mono ?_; rintro e w5 ⟨rfl, hw5⟩; rw [hw5]; clear hw5; refine Hid.out ?_)
            refine Lib.hid ?_
            go_wp2_with (go_at_call 5; refine HW.out.mono ?_; rintro e w5 ⟨rfl, hb5⟩)
            go_ret
            exact ⟨rfl, hbb.trans (hb5.mono hbb.size)⟩
          | true =>
            obtain rfl := F4.out (by simp) (by simp)
            clear F1 F2 F3 F4
            go_wp2_with (go_at_call 7; refine (HS_s.out).mono ?_; rintro e w5 ⟨rfl, hw5⟩; rw [hw5]; clear hw5; refine Hid.out ?_)
            refine Lib.hid ?_
            go_wp2_with (go_at_call 7; refine (HS_t.out).mono ?_; rintro e w5 ⟨rfl, hw5⟩; rw [hw5]; clear hw5; refine Hid.out ?_)
            refine Lib.hid ?_
            go_wp2_with (go_at_call 7; refine (HP_st.out).mono ?_; rintro e w5 ⟨rfl, hw5⟩; rw [hw5]; clear hw5; refine Hid.out ?_)
            refine Lib.hid ?_
            go_wp2_with (go_at_call 7; refine (HP_s.out).mono ?_; rintro e w5 ⟨rfl, hw5⟩; rw [hw5]; clear hw5; refine Hid.out ?_)
            refine Lib.hid ?_
            go_wp2_with (go_at_call 7; refine (HS_s.out).mono ?_; rintro e w5 ⟨rfl, hw5⟩; rw [hw5]; clear hw5; refine Hid.out ?_)
            refine Lib.hid ?_
            go_wp2_with (go_at_call 5; refine HW.out.mono ?_; rintro e w5 ⟨rfl, hb5⟩)
            go_ret
            exact ⟨rfl, hbb.trans (hb5.mono hbb.size)⟩
        | true =>
          obtain rfl := F3.out (by simp) (by simp)
          cases b with
          | false =>
            clear F1 F2 F3 F4
            go_wp2_with (go_at_call 7; refine (HS_s.out).mono ?_; rintro e w5 ⟨rfl, hw5⟩; rw [hw5]; clear hw5; refine Hid.out ?_)
            refine Lib.hid ?_
            go_wp2_with (go_at_call 7; refine (HS_t.out).mono ?_; rintro e w5 ⟨rfl, hw5⟩; rw [hw5]; clear hw5; refine Hid.out ?_)
            refine Lib.hid ?_
            go_wp2_with (go_at_call 7; refine (HS_st.out).mono ?_; rintro e w5 ⟨rfl, hw5⟩; rw [hw5]; clear hw5; refine Hid.out ?_)
            refine Lib.hid ?_
            go_wp2_with (go_at_call 7; refine (HP_s.out).mono ?_; rintro e w5 ⟨rfl, hw5⟩; rw [hw5]; clear hw5; refine Hid.out ?_)
            refine Lib.hid ?_
            go_wp2_with (go_at_call 7; refine (HS_s.out).mono ?_; rintro e w5 ⟨rfl, hw5⟩; rw [hw5]; clear hw5; refine Hid.out ?_)
            refine Lib.hid ?_
            go_wp2_with (go_at_call 5; refine HW.out.mono ?_; rintro e w5 ⟨rfl, hb5⟩)
            go_ret
            exact ⟨rfl, hbb.trans (hb5.mono hbb.size)⟩
          | true =>
            obtain rfl := F4.out (by simp) (by simp)
            clear F1 F2 F3 F4
            go_wp2_with (go_at_call 7; refine (HS_s.out).mono ?_; rintro e w5 ⟨rfl, hw5⟩; rw [hw5]; clear hw5; refine Hid.out ?_)
            refine Lib.hid ?_
            go_wp2_with (go_at_call 7; refine (HS_t.out).mono ?_; rintro e w5 ⟨rfl, hw5⟩; rw [hw5]; clear hw5; refine Hid.out ?_)
            refine Lib.hid ?_
            go_wp2_with (go_at_call 7; refine (HS_st.out).mono ?_; rintro e w5 ⟨rfl, hw5⟩; rw [hw5]; clear hw5; refine Hid.out ?_)
            refine Lib.hid ?_
            go_wp2_with (go_at_call 7; refine (HP_st.out).mono ?_; rintro e w5 ⟨rfl, hw5⟩; rw [hw5]; clear hw5; refine Hid.out ?_)
            refine Lib.hid ?_
            go_wp2_with (go_at_call 7; refine (HP_s.out).mono ?_; rintro e w5 ⟨rfl, hw5⟩; rw [hw5]; clear hw5; refine Hid.out ?_)
            refine Lib.hid ?_
            go_wp2_with (go_at_call 7; refine (HS_s.out).mono ?_; rintro e w5 ⟨rfl, hw5⟩; rw [hw5]; clear hw5; refine Hid.out ?_)
            refine Lib.hid ?_
            go_wp2_with (go_at_call 5; refine HW.out.mono ?_; rintro e w5 ⟨rfl, hb5⟩)
            go_ret
            exact ⟨rfl, hbb.trans (hb5.mono hbb.size)⟩
  · have H1 := Lib.hid (comp_err p w htab hep)
    have hz : ((errE p.data.toList : Int) != 0) = true := by simpa using hep
    generalize errE p.data.toList = E at *
    clear hep
    go_enter Tryd.func3, Tryd.ntmps3
    go_wp2_with (go_at_call 6; refine H1.out.mono ?_; rintro e w1 ⟨rfl, hb1⟩; refine Hid.out ?_)
    refine Lib.hid ?_
    have ht1 := htab.on hb1 htl
    have HW := Lib.hid (awake_any w1 ht1)
    go_wp2_with (go_at_call 5; refine HW.out.mono ?_; rintro e w5 ⟨rfl, hb5⟩)
    go_ret
    exact ⟨rfl, hb1.trans (hb5.mono hb1.size)⟩

end Go.Proofs.YtphffnlbcppckabDoor
