/-
  The walk of InhibitMutes.
-/
import Derived.Test.YthaimnmbcbhioaaDoorISelf
import Derived.Test.YthaimnmbcbhioaaDoorIRef
namespace Go.Proofs.YthaimnmbcbhioaaDoor
open Go.RowKit

set_option maxRecDepth 20000 in
set_option maxHeartbeats 4000000 in
theorem mutes_walk (a : Option Addr) (c : Nat) (rs : List Rl) (fa : Option Addr) (fc : Nat) (fs : List Lb) (ta : Option Addr) (tc : Nat) (qs : List Pr) (w : World) (htab : TabW w) (hr : RlsAt w a rs) (okr : ∀ r ∈ rs, RlOk r) (hrn : rs.length ≤ 9223372036854775807) (hf : LbsAt w fa fs) (okf : ∀ x ∈ fs, LbOk x) (hfn : fs.length ≤ 9223372036854775807) (hq : PairsAt w ta qs) (hqn : qs.length ≤ 9223372036854775807) :
    Calls Tryd.prog 6 #[.slice a rs.length c, .slice fa fs.length fc, .slice ta qs.length tc] w fun e w' => e = .returned (.bool true) ∧ Below w.heap.size w w' := by
  have htl := htab.lt
  have d1 : Below w.heap.size w w := Below.refl _ _
  have H1 := Lib.hid (vLight_any a c rs fa fc fs w hr hf hrn hfn (fun x hx => (okf x hx).1))
  have H2 := Lib.hid (fun u (hb : Below w.heap.size w u) => vLight_any none 0 [] (some ⟨u.heap.size, 0, none⟩) 1 [⟨ta, tc, qs⟩] (u.alloc (.cells #[.slice ta qs.length tc] 39)) (fun h => absurd h (by simp)) (lbs_one (x := ⟨ta, tc, qs⟩) (heap_new u _) (hq.below (hb.alloc hb.size _) (Nat.le_refl _))) (by simp) (by simp) (fun x hx => by
    rw [List.mem_singleton.1 hx]; exact hqn))
  have HW := Lib.hid (fun u (hb : Below w.heap.size w u) => iawake_any u (htab.on hb htl))
  have HOk : Hid (LightI [] [⟨ta, tc, qs⟩] → ∀ x ∈ qs, x.2.size ≤ 9223372036854775807) := Lib.hid fun hL x hx => by
    have := (hL.2.2.1 0 (by simp)).2.2 x hx
    omega
  obtain ⟨p, hpb⟩ := pby_ex qs
  have HV : Hid (LightI [] [⟨ta, tc, qs⟩] → ∀ x ∈ qs, x.2.size ≤ 1000) := Lib.hid fun hL x hx => by
    have := (hL.2.2.1 0 (by simp)).2.2 x hx
    omega
  have HV2 : Hid (LightI rs fs → ∀ x ∈ fs, ∀ y ∈ x.ps, y.2.size ≤ 1000) := Lib.hid fun hL x hx y hy => by
    obtain ⟨i, hi, rfl⟩ := List.getElem_of_mem hx
    have := (hL.2.2.1 i hi).2.2 y hy
    omega
  have HM := Lib.hid (fun (hv : ∀ x ∈ qs, x.2.size ≤ 9223372036854775807) u (hb : Below w.heap.size w u) => iMuter_any a c rs fa fc fs ta tc qs p hpb u (htab.on hb htl) (hr.below hb (Nat.le_refl _)) okr hrn (hf.below hb (Nat.le_refl _)) okf hfn (hq.below hb (Nat.le_refl _)) hqn hv)
  have HR := Lib.hid (fun (hv : ∀ x ∈ qs, x.2.size ≤ 1000) (hw : ∀ x ∈ fs, ∀ y ∈ x.ps, y.2.size ≤ 1000) u (hb : Below w.heap.size w u) => vMuter_any a c rs fa fc fs ta tc qs p hpb u (hr.below hb (Nat.le_refl _)) okr hrn (hf.below hb (Nat.le_refl _)) okf hw hfn (hq.below hb (Nat.le_refl _)) hqn hv)
  have HD := Lib.hid (fun (hv : ∀ x ∈ qs, x.2.size ≤ 9223372036854775807) u (hb : Below w.heap.size w u) => iMuted_any a c rs fa fc fs ta tc qs u (htab.on hb htl) (hr.below hb (Nat.le_refl _)) okr hrn (hf.below hb (Nat.le_refl _)) okf hfn (hq.below hb (Nat.le_refl _)) hqn hv _ _ rfl rfl)
  have HI := Lib.hid (muted_iff (rs := rs) (fs := fs) hpb)
  generalize mutedP rs fs qs = P at *
  generalize mutI p fs rs 0 = R at *
  obtain ⟨R1, R2⟩ := R
  simp only at HM HR HI
  clear hr okr hf okf hq htab htl hpb
  rw [show ([] : List Rl).length = 0 from rfl, show ([⟨ta, tc, qs⟩] : List Lb).length = 1 from rfl] at H2
  go_enter Tryd.func6, Tryd.ntmps6
  go_wp2_with (go_at_call 19; refine H1.out.mono ?_; rintro e w1 ⟨⟨b1, rfl, hb1⟩, q1⟩; have HL1 := Lib.hid hb1; clear hb1; refine Hid.out ?_)
  refine Lib.hid ?_
  have E1 := Lib.hid (d1.trans q1)
  have HW1 := Lib.hid (HW.out _ E1.out)
  clear q1 d1 H1
  cases b1 with
  | false =>
    clear HL1 H2 HOk HM HR HD HV HV2
    go_wp2_with (go_at_call 20; refine HW1.out.mono ?_; rintro e w5 ⟨rfl, q5⟩)
    go_ret
    exact ⟨rfl, E1.out.trans (q5.mono E1.out.size)⟩
  | true =>
  have H2' := Lib.hid (H2.out _ E1.out)
  have e2 := Lib.hid (E1.out.alloc E1.out.size (.cells #[.slice ta qs.length tc] 39))
  have HLI := Lib.hid (HL1.out.1 rfl)
  clear HL1 H2 HW1
  go_wp2_with (go_at_call 19; refine H2'.out.mono ?_; rintro e w2 ⟨⟨b2, rfl, hb2⟩, q2⟩; have HL2 := Lib.hid hb2; clear hb2; refine Hid.out ?_)
  refine Lib.hid ?_
  have E2 := Lib.hid (e2.out.trans (q2.mono e2.out.size))
  clear q2 e2 E1 H2'
  cases b2 with
  | false =>
    have HW2 := Lib.hid (HW.out _ E2.out)
    clear HL2 HOk HM HR HD HV HV2
    go_wp2_with (go_at_call 20; refine HW2.out.mono ?_; rintro e w5 ⟨rfl, q5⟩)
    go_ret
    exact ⟨rfl, E2.out.trans (q5.mono E2.out.size)⟩
  | true =>
  have HQ := Lib.hid (HOk.out (HL2.out.1 rfl))
  have HQ2 := Lib.hid (HV.out (HL2.out.1 rfl))
  have HQ3 := Lib.hid (HV2.out HLI.out)
  clear HL2 HOk HV HV2
  have H3 := Lib.hid (HM.out HQ.out _ E2.out)
  go_wp2_with (go_at_call 23; refine H3.out.mono ?_; rintro e w3 ⟨rfl, q3⟩; refine Hid.out ?_)
  refine Lib.hid ?_
  have E3 := Lib.hid (E2.out.trans (q3.mono E2.out.size))
  have H4 := Lib.hid (HR.out HQ2.out HQ3.out _ E3.out)
  clear q3 E2 H3 HM
  go_wp2_with (go_at_call 24; refine H4.out.mono ?_; rintro e w4 ⟨rfl, q4⟩; refine Hid.out ?_)
  refine Lib.hid ?_
  have E4 := Lib.hid (E3.out.trans (q4.mono E3.out.size))
  have H5 := Lib.hid (HD.out HQ.out _ E4.out)
  clear q4 E3 H4 HR
  by_cases h0 : 0 ≤ R1
  · have hP := Lib.hid (HI.out.1 h0)
    go_wp2_with (go_at_call 25; refine H5.out.mono ?_; rintro e w5 ⟨ht, q5⟩; obtain rfl := tells_yes ht hP.out; clear ht; refine Hid.out ?_)
    refine Lib.hid ?_
    have E5 := Lib.hid (E4.out.trans (q5.mono E4.out.size))
    have HW5 := Lib.hid (HW.out _ E5.out)
    clear q5 E4 H5
    go_wp2_with (go_at_call 20; refine HW5.out.mono ?_; rintro e w6 ⟨rfl, q6⟩)
    go_ret
    exact ⟨rfl, E5.out.trans (q6.mono E5.out.size)⟩
  · have hP : Hid (¬ P) := Lib.hid fun h => h0 (HI.out.2 h)
    have hd : decide (0 ≤ R1) = false := decide_eq_false h0
    clear h0
    go_wp2_with (go_at_call 25; refine H5.out.mono ?_; rintro e w5 ⟨ht, q5⟩; obtain rfl := tells_no ht hP.out; clear ht; refine Hid.out ?_)
    refine Lib.hid ?_
    have E5 := Lib.hid (E4.out.trans (q5.mono E4.out.size))
    have HW5 := Lib.hid (HW.out _ E5.out)
    clear q5 E4 H5
    go_wp2_with (go_at_call 20; refine HW5.out.mono ?_; rintro e w6 ⟨rfl, q6⟩)
    go_ret
    exact ⟨rfl, E5.out.trans (q6.mono E5.out.size)⟩

end Go.Proofs.YthaimnmbcbhioaaDoor
