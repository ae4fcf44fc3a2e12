/-
  SilenceEnds, walked: it answers true at any silence and time, and turns nothing that was there.
-/
import Derived.Test.YtfllfmdopfeecabGreatDoorSSome
namespace Go.Proofs.YtfllfmdopfeecabGreatDoor
open Go Go.RowKit

/-- One silence in a row. -/
theorem sils_one (w : World) (x : Sm) (hm : MtsAt w x.ad x.s.ms) : SilsAt (w.alloc (.cells #[.string x.s.id, .slice x.ad x.s.ms.length x.cp, .int .i64 x.s.st, .int .i64 x.s.en] 27)) (some ⟨w.heap.size, 0, none⟩) [x] := fun _ => by
  have n0 := newE w (.cells #[.string x.s.id, .slice x.ad x.s.ms.length x.cp, .int .i64 x.s.st, .int .i64 x.s.en] 27)
  refine ⟨_, 0, rfl, ltE n0, fun i hi => ?_⟩
  obtain rfl : i = 0 := by have : i < 1 := hi; omega
  exact ⟨⟨cellE n0, cellE n0, cellE n0, cellE n0⟩, hm.below ((Below.refl _ _).alloc (Nat.le_refl _) _) (Nat.le_refl _)⟩
theorem lay_short {s : Sil} (h : silE s = 0) : (layS s.ms s.st s.en).length ≤ 1700 := by
  obtain ⟨-, h2, h3, h4, h5, h6, h7⟩ := silE_zero h
  have q1 := partsMs_short s.ms (fun m hm => good_of (h4 m hm))
  have q2 := itoa_short s.st (by omega) (by omega)
  have q3 := itoa_short s.en (by omega) (by omega)
  unfold layS putList partsS
  simp only [List.flatten_append, List.flatten_cons, List.flatten_nil, List.length_append, List.length_cons, List.length_nil]
  omega

set_option maxRecDepth 100000 in
set_option maxHeartbeats 4000000 in
theorem ends_walk (x : Sm) (now : Int) (w : World) (htab : TabW w) (hv : VarsOk w.heap.size w) (hm : MtsAt w x.ad x.s.ms) (hml : x.s.ms.length ≤ 9223372036854775807) :
    Calls Tryz.prog 6 #[.agg #[.string x.s.id, .slice x.ad x.s.ms.length x.cp, .int .i64 x.s.st, .int .i64 x.s.en], .int .i64 now] w fun e w' => e = .returned (.bool true) ∧ Below w.heap.size w w' := by
  obtain ⟨n, hn⟩ : ∃ n, n = x.s.ms.length := ⟨_, rfl⟩
  have d1 := (Below.refl w.heap.size w).alloc (Nat.le_refl _) (.cells #[.string x.s.id, .slice x.ad x.s.ms.length x.cp, .int .i64 x.s.st, .int .i64 x.s.en] 27)
  have b1 := SBlk.new w x.s.id x.ad x.s.ms.length x.cp x.s.st x.s.en
  have d2 := (Below.refl (w.alloc (.cells #[.string x.s.id, .slice x.ad x.s.ms.length x.cp, .int .i64 x.s.st, .int .i64 x.s.en] 27)).heap.size (w.alloc (.cells #[.string x.s.id, .slice x.ad x.s.ms.length x.cp, .int .i64 x.s.st, .int .i64 x.s.en] 27))).alloc (Nat.le_refl _) (.cells #[.string x.s.id, .slice x.ad x.s.ms.length x.cp, .int .i64 x.s.st, .int .i64 x.s.en] 27)
  have hso := sils_one (w.alloc (.cells #[.string x.s.id, .slice x.ad x.s.ms.length x.cp, .int .i64 x.s.st, .int .i64 x.s.en] 27)) x (hm.below d1 (Nat.le_refl _))
  rw [World.size_alloc] at hso
  have hL := yLight_any (some ⟨w.heap.size + 1, 0, none⟩) 1 [x] _ hso 1 rfl (by omega)
  have b2 := b1.on d2
  have D2 := d1.trans (d2.mono d1.size)
  have HX := Lib.hid (And.intro htab (And.intro hv (And.intro hm hml)))
  have HA : Hid (∀ W, Below w.heap.size w W → Calls Tryz.prog 11 #[] W fun e w' => e = .returned (.bool true) ∧ Below W.heap.size W w') := Lib.hid (fun W hW => slawake_any w.heap.size W hW.size (HX.out.2.1.on hW) (htab.on hW htab.lt))
  obtain ⟨q, hq⟩ : ∃ q, q = decide (LightS [x]) := ⟨_, rfl⟩
  rw [← hq] at hL
  rw [← hn] at hL b2 D2 ⊢
  have HL := Lib.hid hL
  have HB := Lib.hid (And.intro b2 D2)
  have HN := Lib.hid hn
  clear d1 b1 d2 hso hL b2 D2 htab hv hm hml hn hq
  obtain ⟨⟨id, ms, st, en⟩, ad, cp⟩ := x
  dsimp only at *
  cases q with
  | false =>
    go_enter Tryz.func6, Tryz.ntmps6
    go_wp2_with (go_at_call 12; refine HL.out.mono ?_; rintro e w2 ⟨rfl, hw2⟩; replace hw2 := Lib.hid hw2; refine Hid.out ?_)
    refine Lib.hid ?_
    have D2 := HB.out.2
    rw [← hw2.out] at D2
    have HC := Lib.hid (HA.out w2 D2)
    have HD := Lib.hid D2
    clear D2 HL hw2 HB
    go_wp2_with (go_at_call 11; refine HC.out.mono ?_; rintro e w6 ⟨rfl, q6⟩; replace q6 := Lib.hid q6; refine Hid.out ?_)
    refine Lib.hid ?_
    have HF := Lib.hid (HD.out.trans (q6.out.mono HD.out.size))
    clear q6 HC HD
    go_wp2
    go_ret
    exact ⟨rfl, HF.out⟩
  | true =>
    go_enter Tryz.func6, Tryz.ntmps6
    go_wp2_with (go_at_call 12; refine HL.out.mono ?_; rintro e w2 ⟨rfl, hw2⟩; replace hw2 := Lib.hid hw2; refine Hid.out ?_)
    refine Lib.hid ?_
    obtain ⟨b2, D2⟩ := HB.out
    rw [← hw2.out] at b2 D2
    have hC := sCheck_any ⟨id, ms, st, en⟩ ad cp w2 (HX.out.1.on D2 HX.out.1.lt) (HX.out.2.2.1.below D2 (Nat.le_refl _)) HX.out.2.2.2
    dsimp only at hC
    rw [← HN.out] at hC
    have k0 := b2.c0
    have k1 := b2.c1
    have k2 := b2.c2
    have k3 := b2.c3
    have HS := Lib.hid (And.intro b2 D2)
    clear b2 D2 HB HL hw2
    by_cases hE : silE ⟨id, ms, st, en⟩ = 0
    · rw [hE] at hC
      have HC := Lib.hid hC
      have HE := Lib.hid hE
      clear hC hE
      go_wp2_with (go_at_call 22; refine HC.out.mono ?_; rintro e w3 ⟨rfl, q3⟩; replace q3 := Lib.hid q3; refine Hid.out ?_)
      refine Lib.hid ?_
      obtain ⟨b2, D2⟩ := HS.out
      have b3 := b2.on q3.out
      have D3 := D2.trans (q3.out.mono D2.size)
      clear k0 k1 k2 k3
      have k0 := b3.c0
      have k1 := b3.c1
      have k2 := b3.c2
      have k3 := b3.c3
      have he0 : entryE ⟨id, ms, st, en⟩ 0 = 0 := by unfold entryE; rw [HE.out]; rfl
      have hEn := sEntry_ok ⟨id, ms, st, en⟩ ad cp 0 1 w3 (HX.out.1.on D3 HX.out.1.lt) (HX.out.2.2.1.below D3 (Nat.le_refl _)) he0 w.heap.size D3.size (HX.out.2.1.on D3) n HN.out
      dsimp only at hEn
      obtain ⟨KS, hKS⟩ : ∃ KS, KS = keyS id := ⟨_, rfl⟩
      obtain ⟨LV, hLV⟩ : ∃ LV : ByteArray, LV = ⟨(layS ms st en).toArray⟩ := ⟨_, rfl⟩
      obtain ⟨MX, hMX⟩ : ∃ MX, MX = max en 0 := ⟨_, rfl⟩
      rw [← hKS, ← hLV, ← hMX] at hEn
      have hIs : IsE ⟨id, ms, st, en⟩ ⟨KS, 0, 1, LV, MX⟩ := ⟨he0, by rw [hKS, hLV, hMX]; rfl⟩
      have hsz : LV.size ≤ 1048576 := by
        have := lay_short HE.out
        rw [hLV]
        show (layS ms st en).toArray.size ≤ _
        simp only [List.size_toArray]
        dsimp only at this
        omega
      have HEn := Lib.hid hEn
      have HI := Lib.hid (And.intro hIs (And.intro hsz hMX))
      have HS3 := Lib.hid (And.intro b3 D3)
      clear hEn hIs hsz hKS hLV hMX b2 D2 b3 D3 q3 HC HS he0
      go_wp2_with (go_at_call 20; refine HEn.out.mono ?_; rintro e w4 ⟨rfl, q4⟩; replace q4 := Lib.hid q4; refine Hid.out ?_)
      refine Lib.hid ?_
      obtain ⟨b3, D3⟩ := HS3.out
      have b4 := b3.on q4.out
      have D4 := D3.trans (q4.out.mono D3.size)
      have d5 := (Below.refl w4.heap.size w4).alloc (Nat.le_refl _) (.cells #[.string KS, .int .i64 0, .int .u16 1, .string LV, .int .i64 MX] 24)
      have D5 := D4.trans (d5.mono D4.size)
      have x5 := EBlk.new w4 ⟨KS, 0, 1, LV, MX⟩
      have b5 := b4.on d5
      have d6 := (Below.refl (w4.alloc (.cells #[.string KS, .int .i64 0, .int .u16 1, .string LV, .int .i64 MX] 24)).heap.size (w4.alloc (.cells #[.string KS, .int .i64 0, .int .u16 1, .string LV, .int .i64 MX] 24))).alloc (Nat.le_refl _) (.cells #[.string KS, .int .i64 0, .int .u16 1, .string LV, .int .i64 MX] 24)
      have D6 := D5.trans (d6.mono D5.size)
      have x6 := x5.on d6
      have b6 := b5.on d6
      have hAc := sActive_any (some ⟨(w4.alloc (.cells #[.string KS, .int .i64 0, .int .u16 1, .string LV, .int .i64 MX] 24)).heap.size, 0, none⟩) 1 [⟨KS, 0, 1, LV, MX⟩] now w.heap.size _ D6.size (HX.out.2.1.on D6) (HX.out.1.on D6 HX.out.1.lt) (ents_one (w4.alloc (.cells #[.string KS, .int .i64 0, .int .u16 1, .string LV, .int .i64 MX] 24)) ⟨KS, 0, 1, LV, MX⟩) (fun y hy => by simp only [List.mem_singleton] at hy; subst hy; exact HI.out.2.1) 1 rfl (by omega)
      rw [World.size_alloc] at hAc
      have HAc := Lib.hid hAc
      have HS6 := Lib.hid (And.intro b6 (And.intro x6 D6))
      have HAL : Hid (activeL [⟨KS, 0, 1, LV, MX⟩] now = if st ≤ now ∧ now < en then [⟨id, ms, st, en⟩] else []) := Lib.hid (by
        unfold activeL actOf
        simp only [List.filterMap, ofS_some.2 HI.out.1]
        by_cases h : st ≤ now ∧ now < en
        · simp [h]
        · simp [h])
      clear hAc b3 b4 b5 b6 x5 x6 d5 d6 D3 D4 D5 D6 q4 HEn HS3 k0 k1 k2 k3
      by_cases h1 : st ≤ now
      · by_cases h2 : now < en
        · rw [if_pos ⟨h1, h2⟩] at HAL
          go_wp2_with (go_at_call 16; refine HAc.out.mono ?_; rintro e w6 ⟨a6, n6, c6, M6, rfl, hr6, hm6, q6⟩; replace hm6 := Lib.hid hm6; replace hr6 := Lib.hid hr6; replace q6 := Lib.hid q6; refine Hid.out ?_)
          refine Lib.hid ?_
          obtain ⟨y, rfl, -⟩ := map_one (hm6.out.trans HAL.out)
          obtain ⟨hn6, -⟩ := hr6.out.at
          obtain rfl : n6 = 1 := hn6
          obtain ⟨b6, x6, D6⟩ := HS6.out
          have b7 := b6.on q6.out
          have x7 := x6.on q6.out
          have D7 := D6.trans (q6.out.mono D6.size)
          have k2 := b7.c2
          have k3 := b7.c3
          have y0 := x7.c0
          have y1 := x7.c1
          have y2 := x7.c2
          have y3 := x7.c3
          have y4 := x7.c4
          dsimp only at y0 y1 y2 y3 y4
          have hCt := eCounts_any ⟨KS, 0, 1, LV, MX⟩ now w6
          have hlt : now < MX := by rw [HI.out.2.2]; omega
          dsimp only at hCt
          rw [decide_eq_true hlt] at hCt
          have HCt := Lib.hid hCt
          have HD7 := Lib.hid D7
          clear hCt hlt b6 x6 D6 b7 x7 D7 q6 hr6 hm6 HAc HS6 HAL
          go_wp2_with (go_at_call 23; refine HCt.out.mono ?_; rintro e w8 ⟨rfl, q8⟩; replace q8 := Lib.hid q8; refine Hid.out ?_)
          refine Lib.hid ?_
          have D8 := HD7.out.trans (q8.out.mono HD7.out.size)
          have HC9 := Lib.hid (HA.out w8 D8)
          have HD8 := Lib.hid D8
          clear D8 q8 HCt HD7 k2 k3 y0 y1 y2 y3 y4
          go_wp2_with (go_at_call 11; refine HC9.out.mono ?_; rintro e w9 ⟨rfl, q9⟩; replace q9 := Lib.hid q9; refine Hid.out ?_)
          refine Lib.hid ?_
          have HF := Lib.hid (HD8.out.trans (q9.out.mono HD8.out.size))
          clear q9 HC9 HD8
          go_wp2
          go_ret
          exact ⟨rfl, HF.out⟩
        · rw [if_neg (by omega)] at HAL
          go_wp2_with (go_at_call 16; refine HAc.out.mono ?_; rintro e w6 ⟨a6, n6, c6, M6, rfl, hr6, hm6, q6⟩; replace hm6 := Lib.hid hm6; replace hr6 := Lib.hid hr6; replace q6 := Lib.hid q6; refine Hid.out ?_)
          refine Lib.hid ?_
          have hz : M6 = [] := List.map_eq_nil_iff.1 (hm6.out.trans HAL.out)
          obtain ⟨hn6, -⟩ := hr6.out.at
          obtain rfl : n6 = 0 := by rw [hn6, hz]; rfl
          obtain ⟨b6, x6, D6⟩ := HS6.out
          have b7 := b6.on q6.out
          have D7 := D6.trans (q6.out.mono D6.size)
          have k2 := b7.c2
          have k3 := b7.c3
          have HC9 := Lib.hid (HA.out w6 D7)
          have HD8 := Lib.hid D7
          clear hz hn6 b6 x6 D6 b7 D7 q6 hr6 hm6 HAc HS6 HAL
          go_wp2_with (go_at_call 11; refine HC9.out.mono ?_; rintro e w9 ⟨rfl, q9⟩; replace q9 := Lib.hid q9; refine Hid.out ?_)
          refine Lib.hid ?_
          have HF := Lib.hid (HD8.out.trans (q9.out.mono HD8.out.size))
          clear q9 HC9 HD8
          go_wp2
          go_ret
          exact ⟨rfl, HF.out⟩
      · rw [if_neg (by omega)] at HAL
        go_wp2_with (go_at_call 16; refine HAc.out.mono ?_; rintro e w6 ⟨a6, n6, c6, M6, rfl, hr6, hm6, q6⟩; replace hm6 := Lib.hid hm6; replace hr6 := Lib.hid hr6; replace q6 := Lib.hid q6; refine Hid.out ?_)
        refine Lib.hid ?_
        have hz : M6 = [] := List.map_eq_nil_iff.1 (hm6.out.trans HAL.out)
        obtain ⟨hn6, -⟩ := hr6.out.at
        obtain rfl : n6 = 0 := by rw [hn6, hz]; rfl
        obtain ⟨b6, x6, D6⟩ := HS6.out
        have b7 := b6.on q6.out
        have D7 := D6.trans (q6.out.mono D6.size)
        have k2 := b7.c2
        have k3 := b7.c3
        have HC9 := Lib.hid (HA.out w6 D7)
        have HD8 := Lib.hid D7
        clear hz hn6 b6 x6 D6 b7 D7 q6 hr6 hm6 HAc HS6 HAL
        go_wp2_with (go_at_call 11; refine HC9.out.mono ?_; rintro e w9 ⟨rfl, q9⟩; replace q9 := Lib.hid q9; refine Hid.out ?_)
        refine Lib.hid ?_
        have HF := Lib.hid (HD8.out.trans (q9.out.mono HD8.out.size))
        clear q9 HC9 HD8
        go_wp2
        go_ret
        exact ⟨rfl, HF.out⟩
    · have hb : ((silE ⟨id, ms, st, en⟩ : Int) != 0) = true := by simpa using hE
      generalize silE ⟨id, ms, st, en⟩ = E at *
      have HC := Lib.hid hC
      clear hC hE
      go_wp2_with (go_at_call 22; refine HC.out.mono ?_; rintro e w3 ⟨rfl, q3⟩; replace q3 := Lib.hid q3; refine Hid.out ?_)
      refine Lib.hid ?_
      have D3 := HS.out.2.trans (q3.out.mono HS.out.2.size)
      have HC9 := Lib.hid (HA.out w3 D3)
      have HD8 := Lib.hid D3
      clear D3 q3 HC HS k0 k1 k2 k3
      go_wp2_with (go_at_call 11; refine HC9.out.mono ?_; rintro e w9 ⟨rfl, q9⟩; replace q9 := Lib.hid q9; refine Hid.out ?_)
      refine Lib.hid ?_
      have HF := Lib.hid (HD8.out.trans (q9.out.mono HD8.out.size))
      clear q9 HC9 HD8
      go_wp2
      go_ret
      exact ⟨rfl, HF.out⟩

end Go.Proofs.YtfllfmdopfeecabGreatDoor
