/-
  SilenceSome, walked: it answers true at any silences and labels, and turns nothing that was there.
-/
import Derived.Test.YtfllfmdopfeecabGreatDoorSE
import Derived.Test.YtfllfmdopfeecabGreatDoorM4
namespace Go.Proofs.YtfllfmdopfeecabGreatDoor
open Go Go.RowKit

/-- Silences that are few. -/
abbrev LightS (L : List Sm) : Prop := L.length ≤ 40 ∧ ∀ i (hi : i < L.length), L[i].s.ms.length ≤ 20

set_option maxRecDepth 20000 in
set_option maxHeartbeats 2000000 in
theorem yLight_any (a : Option Addr) (c : Nat) (L : List Sm) (w : World) (hs : SilsAt w a L) (n : Nat) (hn : n = L.length) (hl : n ≤ 9223372036854775807) :
    Calls Tryz.prog 12 #[.slice a n c] w fun e w' => e = .returned (.bool (decide (LightS L))) ∧ w' = w := by
  have HN := Lib.hid hn
  have HS := Lib.hid hs
  by_cases h40 : 40 < n
  · have h40' : (40 : Int) < (n : Int) := by omega
    have hno : decide (LightS L) = false := decide_eq_false fun h => by have := h.1; omega
    rw [hno]
    clear hno hn hs h40
    go_enter Tryz.func12, Tryz.ntmps12
    go_wp2
    go_ret
    exact ⟨rfl, rfl⟩
  have h40' : ¬ (40 : Int) < (n : Int) := by omega
  obtain ⟨q, hq⟩ : ∃ q, q = decide (LightS L) := ⟨_, rfl⟩
  rw [← hq]
  have HQ := Lib.hid hq
  clear hq hn hs h40
  go_enter Tryz.func12, Tryz.ntmps12
  go_wp2
  go_loopw [3] (fun i wr => ∃ k : Nat, k ≤ n ∧ i = .int .i64 k ∧ wr = w ∧ Hid (∀ j (hj : j < L.length), j < k → L[j].s.ms.length ≤ 20)) (fun i _ => n - (intOf i).toNat)
  case atStart => exact ⟨0, Nat.zero_le _, rfl, rfl, Lib.hid (fun j _ h => by omega)⟩
  case round =>
    obtain ⟨k, hk, rfl, hwr, HF⟩ := hrel
    subst hwr
    by_cases hlt : k < n
    · have hkl : (k : Int) < (n : Int) := by omega
      have hkx : k < L.length := by have := HN.out; omega
      obtain ⟨b, o, rfl, hb, hc⟩ := HS.out (Nat.lt_of_le_of_lt (Nat.zero_le _) hkx)
      obtain ⟨⟨-, c1, -, -⟩, -⟩ := hc k hkx
      have HS2 : Hid (L[k].s.ms.length ≤ 20 → ∀ j (hj : j < L.length), j < k + 1 → L[j].s.ms.length ≤ 20) := Lib.hid (fun h j hj hjk => by
        by_cases e : j = k
        · subst e; exact h
        · exact HF.out j hj (by omega))
      have HS3 : Hid (20 < L[k].s.ms.length → q = false) := Lib.hid (fun h => by rw [HQ.out]; exact decide_eq_false fun h2 => by have := h2.2 k hkx; omega)
      generalize L[k].s.ms.length = m at *
      generalize L[k].ad = am at *
      generalize L[k].cp = cm at *
      clear hc hb hkx
      by_cases hm : 20 < m
      · have hm' : (20 : Int) < (m : Int) := by omega
        have hqf := HS3.out hm
        subst hqf
        clear hm HS2 HS3 HQ
        go_wp2
        go_ret
        exact ⟨rfl, rfl⟩
      · have hm' : ¬ (20 : Int) < (m : Int) := by omega
        have HS4 := Lib.hid (HS2.out (by omega))
        clear hm HS2 HS3
        go_wp2
        go_roundw
        case rel => exact ⟨k + 1, by omega, by go_num, trivial, HS4⟩
        case measure => simp [intOf]; omega
    · have hkl : ¬ (k : Int) < (n : Int) := by omega
      have hqt : q = true := by rw [HQ.out]; exact decide_eq_true ⟨by have := HN.out; omega, fun i hi => HF.out i hi (by have := HN.out; omega)⟩
      subst hqt
      clear HQ HF
      go_wp2
      go_ret
      exact ⟨rfl, rfl⟩

theorem any_next (p : Sm → Bool) (L : List Sm) (k : Nat) (hk : k < L.length) : (L.take (k + 1)).any p = ((L.take k).any p || p L[k]) := by
  rw [List.take_succ_eq_append_getElem hk, List.any_append]
  simp
/-- One of silences. -/
theorem SilsAt.nth {w : World} {b o : Nat} {L : List Sm} (h : SilsAt w (some ⟨b, o, none⟩) L) (k : Nat) (hk : k < L.length) : SilsAt w (some ⟨b, o + k * 4, none⟩) [L[k]] := fun _ => by
  obtain ⟨b', o', e, hb, hc⟩ := h (Nat.lt_of_le_of_lt (Nat.zero_le _) hk)
  simp only [Option.some.injEq, Addr.mk.injEq, and_true] at e
  obtain ⟨rfl, rfl⟩ := e
  refine ⟨b, o + k * 4, rfl, hb, fun i hi => ?_⟩
  obtain rfl : i = 0 := by have : i < 1 := hi; omega
  obtain ⟨⟨h1, h2, h3, h4⟩, hm⟩ := hc k hk
  simpa using And.intro (And.intro h1 (And.intro h2 (And.intro h3 h4))) hm

set_option maxRecDepth 100000 in
set_option maxHeartbeats 4000000 in
theorem some_walkS (a : Option Addr) (c : Nat) (L : List Sm) (b : Option Addr) (d : Nat) (ps : List Pr) (w : World) (htab : TabW w) (hv : VarsOk w.heap.size w) (hs : SilsAt w a L) (hml : ∀ x ∈ L, x.s.ms.length ≤ 9223372036854775807) (h : PairsAt w b ps) (hnp : ps.length ≤ 9223372036854775807) (hps : ∀ q ∈ ps, q.2.size ≤ 9223372036854775807) (hl : L.length ≤ 9223372036854775807) (hcap : L.length ≤ c) :
    Calls Tryz.prog 7 #[.slice a L.length c, .slice b ps.length d] w fun e w' => e = .returned (.bool true) ∧ Below w.heap.size w w' := by
  obtain ⟨n, hn⟩ : ∃ n, n = L.length := ⟨_, rfl⟩
  obtain ⟨m, hm⟩ : ∃ m, m = ps.length := ⟨_, rfl⟩
  have HL := Lib.hid (yLight_any a c L w hs n hn (by omega))
  have HX := Lib.hid (And.intro htab (And.intro hv (And.intro hs (And.intro hml (And.intro h (And.intro hnp (And.intro hps hn)))))))
  have hln := nLight_any none b 0 0 d ps w h (by omega) hnp
  obtain ⟨lp, hlp⟩ : ∃ lp, lp = decide (LightP 0 ps) := ⟨_, rfl⟩
  rw [← hlp] at hln
  rw [← hn, ← hm]
  rw [← hm] at hln
  have HLn := Lib.hid hln
  have hnc : n ≤ c := by omega
  have hn63 : n ≤ 9223372036854775807 := by omega
  have HM := Lib.hid hm
  obtain ⟨p, hp⟩ := asks_ex ps
  have HP := Lib.hid hp
  have HA : Hid (∀ W, Below w.heap.size w W → Calls Tryz.prog 11 #[] W fun e w' => e = .returned (.bool true) ∧ Below W.heap.size W w') := Lib.hid (fun W hW => slawake_any w.heap.size W hW.size (HX.out.2.1.on hW) (htab.on hW htab.lt))
  have HMu : Hid (∀ W, Below w.heap.size w W → ∀ (a' : Option Addr) (c' : Nat) (M : List Sm) (n' : Nat), SilsAt W a' M → (∀ x ∈ M, x ∈ L) → n' = M.length → n' ≤ 9223372036854775807 → Calls Tryz.prog 18 #[.slice a' n' c', .slice b m d] W fun e w' => e = .returned (.bool (M.any p)) ∧ Below W.heap.size W w') := Lib.hid (fun W hW a' c' M n' hM hsub hn' hl' => sMutes_any a' c' M b d ps p hp W (htab.on hW htab.lt) hM (fun x hx => hml x (hsub x hx)) (h.below hW (Nat.le_refl _)) hnp hps n' hn' hl' m hm)
  clear htab hv hs hml h hnp hps hn hm hp hln hl hcap hlp
  by_cases h1 : LightS L
  · rw [decide_eq_true h1] at HL
    cases lp with
    | true =>
      clear h1
      go_enter Tryz.func7, Tryz.ntmps7
      go_wp2_with (go_at_call 12; refine HL.out.mono ?_; rintro e w1 ⟨rfl, hw1⟩; replace hw1 := Lib.hid hw1; refine Hid.out ?_)
      refine Lib.hid ?_
      obtain rfl := hw1.out
      go_wp2_with (go_at_call 13; refine HLn.out.mono ?_; rintro e w2 ⟨rfl, q2⟩; replace q2 := Lib.hid q2; refine Hid.out ?_)
      refine Lib.hid ?_
      clear HL HLn hw1
      have HQ2 := Lib.hid q2.out
      go_wp2
      go_loopw [5, 6] (fun sm i wr => ∃ k : Nat, k ≤ n ∧ i = .int .i64 k ∧ sm = .bool ((L.take k).any p) ∧ Hid (Below w1.heap.size w1 wr)) (fun _ i _ => n - (intOf i).toNat)
      case atStart => exact ⟨0, Nat.zero_le _, rfl, by simp, HQ2⟩
      case round =>
        obtain ⟨k, hk, rfl, rfl, HB⟩ := hrel
        clear q2 HQ2
        by_cases hlt : k < n
        · have hkl : (k : Int) < (n : Int) := by omega
          have HLT := Lib.hid hlt
          have hkx : k < L.length := by have := HX.out.2.2.2.2.2.2.2; omega
          have HNx := Lib.hid (any_next p L k hkx)
          generalize (L.take k).any p = sm at *
          cases sm with
          | true =>
            have HNy : Hid ((L.take (k + 1)).any p = true) := Lib.hid (by rw [HNx.out]; rfl)
            clear HNx hkx
            go_wp2
            go_roundw
            case rel => exact ⟨k + 1, by have := HLT.out; omega, by go_num, by rw [HNy.out], HB⟩
            case measure => have := HLT.out; simp [intOf]; omega
          | false =>
            obtain ⟨bb, oo, rfl, hbb, -⟩ := HX.out.2.2.1 (Nat.lt_of_le_of_lt (Nat.zero_le _) hkx)
            have hone := (HX.out.2.2.1.below HB.out (Nat.le_refl _)).nth k hkx
            have hC := HMu.out wr HB.out (some ⟨bb, oo + k * 4, none⟩) (c - k) [L[k]] 1 hone (fun x hx => by simp only [List.mem_singleton] at hx; subst hx; exact List.getElem_mem _) rfl (by omega)
            have e1 : [L[k]].any p = p L[k] := by simp
            rw [e1] at hC
            have HNy : Hid ((L.take (k + 1)).any p = p L[k]) := Lib.hid (by rw [HNx.out]; rfl)
            generalize p L[k] = pk at *
            have HC := Lib.hid hC
            have hck : ¬ c = k := by omega
            have hk1 : (k : Int) + 1 ≤ (c : Int) := by omega
            clear hC hone hbb hkx HNx e1
            go_wp2_with (go_at_call 18; refine HC.out.mono ?_; rintro e w4 ⟨rfl, q4⟩; replace q4 := Lib.hid q4; refine Hid.out ?_)
            refine Lib.hid ?_
            have HF := Lib.hid (HB.out.trans (q4.out.mono HB.out.size))
            clear q4 HC HB
            go_wp2
            go_roundw
            case rel => exact ⟨k + 1, by have := HLT.out; omega, by go_num, by rw [HNy.out], HF⟩
            case measure => have := HLT.out; simp [intOf]; omega
        · have hkl : ¬ (k : Int) < (n : Int) := by omega
          obtain rfl : k = n := by omega
          have HE : Hid ((L.take k).any p = L.any p) := Lib.hid (by rw [HX.out.2.2.2.2.2.2.2, List.take_length])
          have HC1 := Lib.hid (HMu.out wr HB.out a c L k (HX.out.2.2.1.below HB.out (Nat.le_refl _)) (fun x hx => hx) HX.out.2.2.2.2.2.2.2 hn63)
          rw [HE.out]
          generalize L.any p = q at *
          clear hk
          go_wp2_with (go_at_call 18; refine HC1.out.mono ?_; rintro e w4 ⟨rfl, q4⟩; replace q4 := Lib.hid q4; refine Hid.out ?_)
          refine Lib.hid ?_
          have D4 := HB.out.trans (q4.out.mono HB.out.size)
          have HC2 := Lib.hid (HMu.out w4 D4 none 0 [] 0 (SilsAt.nil _ _) (fun x hx => by cases hx) rfl (by omega))
          have HD4 := Lib.hid D4
          have hqq : (q == q) = true := by simp
          clear D4 q4 HC1 HB
          go_wp2_with (go_at_call 18; refine HC2.out.mono ?_; rintro e w5 ⟨rfl, q5⟩; replace q5 := Lib.hid q5; refine Hid.out ?_)
          refine Lib.hid ?_
          have D5 := HD4.out.trans (q5.out.mono HD4.out.size)
          have HC3 := Lib.hid (HA.out w5 D5)
          have HD5 := Lib.hid D5
          clear D5 q5 HC2 HD4
          go_wp2_with (go_at_call 11; refine HC3.out.mono ?_; rintro e w6 ⟨rfl, q6⟩; replace q6 := Lib.hid q6; refine Hid.out ?_)
          refine Lib.hid ?_
          have HF := Lib.hid (HD5.out.trans (q6.out.mono HD5.out.size))
          clear q6 HC3 HD5
          go_wp2
          go_ret
          exact ⟨rfl, HF.out⟩
    | false =>
      clear h1
      go_enter Tryz.func7, Tryz.ntmps7
      go_wp2_with (go_at_call 12; refine HL.out.mono ?_; rintro e w1 ⟨rfl, hw1⟩; replace hw1 := Lib.hid hw1; refine Hid.out ?_)
      refine Lib.hid ?_
      obtain rfl := hw1.out
      go_wp2_with (go_at_call 13; refine HLn.out.mono ?_; rintro e w2 ⟨rfl, q2⟩; replace q2 := Lib.hid q2; refine Hid.out ?_)
      refine Lib.hid ?_
      have HC3 := Lib.hid (HA.out w2 q2.out)
      clear HL HLn hw1
      go_wp2_with (go_at_call 11; refine HC3.out.mono ?_; rintro e w6 ⟨rfl, q6⟩; replace q6 := Lib.hid q6; refine Hid.out ?_)
      refine Lib.hid ?_
      have HF := Lib.hid (q2.out.trans (q6.out.mono q2.out.size))
      clear q6 HC3 q2
      go_wp2
      go_ret
      exact ⟨rfl, HF.out⟩
  · rw [decide_eq_false h1] at HL
    clear h1
    go_enter Tryz.func7, Tryz.ntmps7
    go_wp2_with (go_at_call 12; refine HL.out.mono ?_; rintro e w1 ⟨rfl, hw1⟩; replace hw1 := Lib.hid hw1; refine Hid.out ?_)
    refine Lib.hid ?_
    obtain rfl := hw1.out
    have HC3 := Lib.hid (HA.out w1 (Below.refl _ _))
    clear HL HLn hw1
    go_wp2_with (go_at_call 11; refine HC3.out.mono ?_; rintro e w6 ⟨rfl, q6⟩; replace q6 := Lib.hid q6; refine Hid.out ?_)
    refine Lib.hid ?_
    go_wp2
    go_ret
    exact ⟨rfl, q6.out⟩

end Go.Proofs.YtfllfmdopfeecabGreatDoor
