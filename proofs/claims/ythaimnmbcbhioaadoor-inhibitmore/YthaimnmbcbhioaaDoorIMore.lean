/-
  The walk of InhibitMore.
-/
import Derived.Test.YthaimnmbcbhioaaDoorISelf
namespace Go.Proofs.YthaimnmbcbhioaaDoor
open Go.RowKit

theorem RlsAt.take {w : World} {a : Option Addr} {l : List Rl} (h : RlsAt w a l) (k : Nat) : RlsAt w a (l.take k) := fun hn => by
  rw [List.length_take] at hn
  obtain ⟨b, o, rfl, hbl, hc⟩ := h (by omega)
  refine ⟨b, o, rfl, hbl, fun i hi => ?_⟩
  rw [List.length_take] at hi
  rw [List.getElem_take]
  exact hc i (by omega)
theorem LbsAt.take {w : World} {a : Option Addr} {l : List Lb} (h : LbsAt w a l) (k : Nat) : LbsAt w a (l.take k) := fun hn => by
  rw [List.length_take] at hn
  obtain ⟨b, o, rfl, hbl, hc⟩ := h (by omega)
  refine ⟨b, o, rfl, hbl, fun i hi => ?_⟩
  rw [List.length_take] at hi
  rw [List.getElem_take]
  exact hc i (by omega)
theorem LbsAt.drop {w : World} {b o : Nat} {l : List Lb} (h : LbsAt w (some ⟨b, o, none⟩) l) (k : Nat) : LbsAt w (some ⟨b, o + k, none⟩) (l.drop k) := fun hn => by
  rw [List.length_drop] at hn
  obtain ⟨b', o', e, hbl, hc⟩ := h (by omega)
  simp only [Option.some.injEq, Addr.mk.injEq, and_true] at e
  obtain ⟨rfl, rfl⟩ := e
  refine ⟨b, o + k, rfl, hbl, fun i hi => ?_⟩
  rw [List.length_drop] at hi
  rw [List.getElem_drop, Nat.add_assoc]
  exact hc (k + i) (by omega)
theorem lbs_slice {w : World} {fa : Option Addr} {l : List Lb} (h : LbsAt w fa l) (k c : Nat) (hc : l.length ≤ c) : LbsAt w (if c = k then fa else Option.map (fun x => x.add k) fa) (l.drop k) := fun hn => by
  have hn' := hn
  rw [List.length_drop] at hn'
  obtain ⟨b, o, rfl, hbl, -⟩ := h (by omega)
  rw [if_neg (by omega), Option.map_some, Go.WideShapes.add_plain]
  exact h.drop k hn
theorem muted_take {rs : List Rl} {fs : List Lb} {qs : List Pr} {k : Nat} (h : mutedP rs (fs.take k) qs) : mutedP rs fs qs := by
  obtain ⟨r, hr, x, hx, e⟩ := h
  exact ⟨r, hr, x, List.mem_of_mem_take hx, e⟩
theorem muted_drop {rs : List Rl} {fs : List Lb} {qs : List Pr} {k : Nat} (h : mutedP rs (fs.drop k) qs) : mutedP rs fs qs := by
  obtain ⟨r, hr, x, hx, e⟩ := h
  exact ⟨r, hr, x, List.mem_of_mem_drop hx, e⟩
theorem muted_less {rs : List Rl} {fs : List Lb} {qs : List Pr} {k : Nat} (h : mutedP (rs.take k) fs qs) : mutedP rs fs qs := by
  obtain ⟨r, hr, x, hx, e⟩ := h
  exact ⟨r, List.mem_of_mem_take hr, x, hx, e⟩
theorem muted_nil1 {fs : List Lb} {qs : List Pr} : ¬ mutedP [] fs qs := fun ⟨_, hr, _⟩ => by cases hr
theorem muted_nil2 {rs : List Rl} {qs : List Pr} : ¬ mutedP rs [] qs := fun ⟨_, _, _, hx, _⟩ => by cases hx

set_option maxRecDepth 20000 in
set_option maxHeartbeats 4000000 in
theorem more_walk (a : Option Addr) (c : Nat) (rs : List Rl) (fa : Option Addr) (fc : Nat) (fs : List Lb) (ta : Option Addr) (tc : Nat) (qs : List Pr) (w : World) (htab : TabW w) (hr : RlsAt w a rs) (okr : ∀ r ∈ rs, RlOk r) (hrn : rs.length ≤ 9223372036854775807) (hf : LbsAt w fa fs) (okf : ∀ x ∈ fs, LbOk x) (hfn : fs.length ≤ 9223372036854775807) (hq : PairsAt w ta qs) (hqn : qs.length ≤ 9223372036854775807) (hcap : rs.length ≤ c) (hfcap : fs.length ≤ fc) :
    Calls Tryd.prog 8 #[.slice a rs.length c, .slice fa fs.length fc, .slice ta qs.length tc] w fun e w' => e = .returned (.bool true) ∧ Below w.heap.size w w' := by
  have htl := htab.lt
  have d1 : Below w.heap.size w w := Below.refl _ _
  have H1 := Lib.hid (vLight_any a c rs fa fc fs w hr hf hrn hfn (fun x hx => (okf x hx).1))
  have H2 := Lib.hid (fun u (hb : Below w.heap.size w u) => vLight_any none 0 [] (some ⟨u.heap.size, 0, none⟩) 1 [⟨ta, tc, qs⟩] (u.alloc (.cells #[.slice ta qs.length tc] 39)) (fun h => absurd h (by simp)) (lbs_one (x := ⟨ta, tc, qs⟩) (heap_new u _) (hq.below (hb.alloc hb.size _) (Nat.le_refl _))) (by simp) (by simp) (fun x hx => by
    rw [List.mem_singleton.1 hx]; exact hqn))
  have HW := Lib.hid (fun u (hb : Below w.heap.size w u) => iawake_any u (htab.on hb htl))
  have HOk : Hid (LightI [] [⟨ta, tc, qs⟩] → ∀ x ∈ qs, x.2.size ≤ 9223372036854775807) := Lib.hid fun hL x hx => by
    have := (hL.2.2.1 0 (by simp)).2.2 x hx
    omega
  have HM := Lib.hid (fun (hv : ∀ x ∈ qs, x.2.size ≤ 9223372036854775807) u (hb : Below w.heap.size w u) => iMuted_any a c rs fa fc fs ta tc qs u (htab.on hb htl) (hr.below hb (Nat.le_refl _)) okr hrn (hf.below hb (Nat.le_refl _)) okf hfn (hq.below hb (Nat.le_refl _)) hqn hv _ _ rfl rfl)
  have HM1 := Lib.hid (fun (hv : ∀ x ∈ qs, x.2.size ≤ 9223372036854775807) (k : Nat) (hk : k ≤ fs.length) u (hb : Below w.heap.size w u) => iMuted_any a c rs fa fc (fs.take k) ta tc qs u (htab.on hb htl) (hr.below hb (Nat.le_refl _)) okr hrn ((hf.below hb (Nat.le_refl _)).take k) (fun x hx => okf x (List.mem_of_mem_take hx)) (by rw [List.length_take]; omega) (hq.below hb (Nat.le_refl _)) hqn hv rs.length k rfl (by rw [List.length_take]; omega))
  have HM2 := Lib.hid (fun (hv : ∀ x ∈ qs, x.2.size ≤ 9223372036854775807) (k : Nat) (hk : k ≤ fs.length) (fa2 : Option Addr) (fc2 : Nat) u (hb : Below w.heap.size w u) (hf2 : LbsAt u fa2 (fs.drop k)) => iMuted_any a c rs fa2 fc2 (fs.drop k) ta tc qs u (htab.on hb htl) (hr.below hb (Nat.le_refl _)) okr hrn hf2 (fun x hx => okf x (List.mem_of_mem_drop hx)) (by rw [List.length_drop]; omega) (hq.below hb (Nat.le_refl _)) hqn hv rs.length (fs.length - k) rfl (by rw [List.length_drop]))
  have HM3 := Lib.hid (fun (hv : ∀ x ∈ qs, x.2.size ≤ 9223372036854775807) (k : Nat) (hk : k ≤ rs.length) u (hb : Below w.heap.size w u) => iMuted_any a c (rs.take k) fa fc fs ta tc qs u (htab.on hb htl) ((hr.below hb (Nat.le_refl _)).take k) (fun x hx => okr x (List.mem_of_mem_take hx)) (by rw [List.length_take]; omega) (hf.below hb (Nat.le_refl _)) okf hfn (hq.below hb (Nat.le_refl _)) hqn hv k fs.length (by rw [List.length_take]; omega) rfl)
  have HM4 := Lib.hid (fun (hv : ∀ x ∈ qs, x.2.size ≤ 9223372036854775807) u (hb : Below w.heap.size w u) => iMuted_any none 0 [] fa fc fs ta tc qs u (htab.on hb htl) (fun h => absurd h (by simp)) (fun r hr => by cases hr) (by simp) (hf.below hb (Nat.le_refl _)) okf hfn (hq.below hb (Nat.le_refl _)) hqn hv 0 _ rfl rfl)
  have HM5 := Lib.hid (fun (hv : ∀ x ∈ qs, x.2.size ≤ 9223372036854775807) u (hb : Below w.heap.size w u) => iMuted_any a c rs none 0 [] ta tc qs u (htab.on hb htl) (hr.below hb (Nat.le_refl _)) okr hrn (fun h => absurd h (by simp)) (fun r hr => by cases hr) (by simp) (hq.below hb (Nat.le_refl _)) hqn hv _ 0 rfl rfl)
  have HF := Lib.hid hf
  have HP1 := Lib.hid (fun k => muted_take (rs := rs) (fs := fs) (qs := qs) (k := k))
  have HP2 := Lib.hid (fun k => muted_drop (rs := rs) (fs := fs) (qs := qs) (k := k))
  have HP3 := Lib.hid (fun k => muted_less (rs := rs) (fs := fs) (qs := qs) (k := k))
  generalize mutedP rs fs qs = P at *
  clear hr okr hf okf hq htab htl
  rw [show ([] : List Rl).length = 0 from rfl, show ([⟨ta, tc, qs⟩] : List Lb).length = 1 from rfl] at H2
  go_enter Tryd.func8, Tryd.ntmps8
  go_wp2_with (go_at_call 19; refine H1.out.mono ?_; rintro e w1 ⟨⟨b1, rfl, hb1⟩, q1⟩; have HL1 := Lib.hid hb1; clear hb1; refine Hid.out ?_)
  refine Lib.hid ?_
  have E1 := Lib.hid (d1.trans q1)
  have HW1 := Lib.hid (HW.out _ E1.out)
  clear q1 d1 H1
  cases b1 with
  | false =>
    clear HL1 H2 HOk HM HM1 HM2 HM3 HM4 HM5
    go_wp2_with (go_at_call 20; refine HW1.out.mono ?_; rintro e w5 ⟨rfl, q5⟩)
    go_ret
    exact ⟨rfl, E1.out.trans (q5.mono E1.out.size)⟩
  | true =>
  have H2' := Lib.hid (H2.out _ E1.out)
  have e2 := Lib.hid (E1.out.alloc E1.out.size (.cells #[.slice ta qs.length tc] 39))
  have HLI := Lib.hid (HL1.out.1 rfl)
  clear HL1 H2 HW1
  go_wp2_with (go_at_call 19; refine H2'.out.mono ?_; rintro e w2 ⟨⟨b2, rfl, hb2⟩, q2⟩; have HL2 := Lib.hid hb2; clear hb2; refine Hid.out ?_)
  refine Lib.hid ?_
  have E2 := Lib.hid (e2.out.trans (q2.mono e2.out.size))
  clear q2 e2 E1 H2'
  cases b2 with
  | false =>
    have HW2 := Lib.hid (HW.out _ E2.out)
    clear HL2 HOk HM HM1 HM2 HM3 HM4 HM5
    go_wp2_with (go_at_call 20; refine HW2.out.mono ?_; rintro e w5 ⟨rfl, q5⟩)
    go_ret
    exact ⟨rfl, E2.out.trans (q5.mono E2.out.size)⟩
  | true =>
  have HQ := Lib.hid (HOk.out (HL2.out.1 rfl))
  clear HL2 HOk
  have H3 := Lib.hid (HM.out HQ.out _ E2.out)
  have hr12 := HLI.out.1
  have hf40 := HLI.out.2.1
  clear HLI
  go_wp2_with (go_at_call 25; refine H3.out.mono ?_; rintro e w3 ⟨⟨b3, rfl, hb3⟩, q3⟩; have HA := Lib.hid hb3; clear hb3; refine Hid.out ?_)
  refine Lib.hid ?_
  have E3 := Lib.hid (E2.out.trans (q3.mono E2.out.size))
  clear q3 E2 H3 HM
  go_wp2
  go_loopw [8] (fun i wr => ∃ k : Nat, k ≤ fs.length + 1 ∧ i = .int .i64 k ∧ Hid (Below w.heap.size w wr)) (fun i _ => fs.length + 1 - (intOf i).toNat)
  case atStart => exact ⟨0, Nat.zero_le _, rfl, E3⟩
  case round =>
    clear E3
    obtain ⟨k, hk, rfl, HB⟩ := hrel
    by_cases hlt : k ≤ fs.length
    · have hkl : (k : Int) ≤ (fs.length : Int) := by omega
      have hkc : (k : Int) ≤ (fc : Int) := by omega
      have hkn : ¬ (k : Int) < 0 := by omega
      have H4 := Lib.hid (HM1.out HQ.out k hlt _ HB.out)
      go_wp2_with (go_at_call 25; refine H4.out.mono ?_; rintro e w4 ⟨⟨b4, rfl, hb4⟩, q4⟩; have HA4 := Lib.hid hb4; clear hb4; refine Hid.out ?_)
      refine Lib.hid ?_
      have E4 := Lib.hid (HB.out.trans (q4.mono HB.out.size))
      have HB3 : Hid (b4 = true → b3 = true) := Lib.hid fun e => HA.out.2 (HP1.out k (HA4.out.1 e))
      clear q4 HB H4 HA4
      have H5 := Lib.hid (fun fa2 fc2 hf2 => HM2.out HQ.out k hlt fa2 fc2 _ E4.out hf2)
      have HF4 := Lib.hid (HF.out.below E4.out (Nat.le_refl _))
      have HZ := Lib.hid (lbs_slice HF4.out k fc hfcap)
      clear HF4
      cases b4 with
      | true =>
        obtain rfl := HB3.out rfl
        go_wp2_with (go_at_call 25; have HZ2 := HZ.out; generalize (if fc = k then fa else Option.map (fun x => x.add k) fa) = fa2 at HZ2 ⊢; refine (H5.out _ _ HZ2).mono ?_; clear HZ2; rintro e w5 ⟨⟨b5, rfl, hb5⟩, q5⟩; have HA5 := Lib.hid hb5; clear hb5; refine Hid.out ?_)
        refine Lib.hid ?_
        have E5 := Lib.hid (E4.out.trans (q5.mono E4.out.size))
        clear q5 E4 H5 HA5 HB3
        cases b5 with
        | true =>
          go_wp2
          go_roundw
          case rel => exact ⟨k + 1, by omega, by go_num, E5⟩
          case measure => simp [intOf]; omega
        | false =>
          go_wp2
          go_roundw
          case rel => exact ⟨k + 1, by omega, by go_num, E5⟩
          case measure => simp [intOf]; omega
      | false =>
        go_wp2_with (go_at_call 25; have HZ2 := HZ.out; generalize (if fc = k then fa else Option.map (fun x => x.add k) fa) = fa2 at HZ2 ⊢; refine (H5.out _ _ HZ2).mono ?_; clear HZ2; rintro e w5 ⟨⟨b5, rfl, hb5⟩, q5⟩; have HA5 := Lib.hid hb5; clear hb5; refine Hid.out ?_)
        refine Lib.hid ?_
        have E5 := Lib.hid (E4.out.trans (q5.mono E4.out.size))
        have HB5 : Hid (b5 = true → b3 = true) := Lib.hid fun e => HA.out.2 (HP2.out k (HA5.out.1 e))
        clear q5 E4 H5 HA5 HB3
        cases b5 with
        | true =>
          obtain rfl := HB5.out rfl
          go_wp2
          go_roundw
          case rel => exact ⟨k + 1, by omega, by go_num, E5⟩
          case measure => simp [intOf]; omega
        | false =>
          go_wp2
          go_roundw
          case rel => exact ⟨k + 1, by omega, by go_num, E5⟩
          case measure => simp [intOf]; omega
    · have hkl : ¬ (k : Int) ≤ (fs.length : Int) := by omega
      clear HM1 HM2 HP1 HP2
      go_wp2
      go_loopw [9] (fun i wr => ∃ k : Nat, k ≤ rs.length + 1 ∧ i = .int .i64 k ∧ Hid (Below w.heap.size w wr)) (fun i _ => rs.length + 1 - (intOf i).toNat)
      case atStart => exact ⟨0, Nat.zero_le _, rfl, HB⟩
      case round =>
        clear HB
        obtain ⟨j, hj, rfl, HB⟩ := hrel
        by_cases hlt2 : j ≤ rs.length
        · have hjl : (j : Int) ≤ (rs.length : Int) := by omega
          have hjc : (j : Int) ≤ (c : Int) := by omega
          have hjn : ¬ (j : Int) < 0 := by omega
          have H4 := Lib.hid (HM3.out HQ.out j hlt2 _ HB.out)
          go_wp2_with (go_at_call 25; refine H4.out.mono ?_; rintro e w4 ⟨⟨b4, rfl, hb4⟩, q4⟩; have HA4 := Lib.hid hb4; clear hb4; refine Hid.out ?_)
          refine Lib.hid ?_
          have E4 := Lib.hid (HB.out.trans (q4.mono HB.out.size))
          have HB3 : Hid (b4 = true → b3 = true) := Lib.hid fun e => HA.out.2 (HP3.out j (HA4.out.1 e))
          clear q4 HB H4 HA4
          cases b4 with
          | true =>
            obtain rfl := HB3.out rfl
            go_wp2
            go_roundw
            case rel => exact ⟨j + 1, by omega, by go_num, E4⟩
            case measure => simp [intOf]; omega
          | false =>
            go_wp2
            go_roundw
            case rel => exact ⟨j + 1, by omega, by go_num, E4⟩
            case measure => simp [intOf]; omega
        · have hjl : ¬ (j : Int) ≤ (rs.length : Int) := by omega
          have H4 := Lib.hid (HM4.out HQ.out _ HB.out)
          go_wp2_with (go_at_call 25; refine H4.out.mono ?_; rintro e w4 ⟨ht, q4⟩; obtain rfl := tells_no ht muted_nil1; clear ht; refine Hid.out ?_)
          refine Lib.hid ?_
          have E4 := Lib.hid (HB.out.trans (q4.mono HB.out.size))
          have H5 := Lib.hid (HM5.out HQ.out _ E4.out)
          clear q4 HB H4
          go_wp2_with (go_at_call 25; refine H5.out.mono ?_; rintro e w5 ⟨ht, q5⟩; obtain rfl := tells_no ht muted_nil2; clear ht; refine Hid.out ?_)
          refine Lib.hid ?_
          have E5 := Lib.hid (E4.out.trans (q5.mono E4.out.size))
          have HW5 := Lib.hid (HW.out _ E5.out)
          clear q5 E4 H5
          go_wp2_with (go_at_call 20; refine HW5.out.mono ?_; rintro e w6 ⟨rfl, q6⟩)
          go_ret
          exact ⟨rfl, E5.out.trans (q6.mono E5.out.size)⟩

end Go.Proofs.YthaimnmbcbhioaaDoor
