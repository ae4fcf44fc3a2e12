/-
  The reference's By and Muter.
-/
import Derived.Test.YthaimnmbcbhioaaDoorI2
import Derived.Test.YthaimnmbcbhioaaDoorM7
namespace Go.Proofs.YthaimnmbcbhioaaDoor
open Go.RowKit

theorem eq_beq {a b : ByteArray} : (a.toList == b.toList) = true ↔ a = b := by
  rw [beq_iff_eq]
  constructor
  · intro e
    rw [ByteArray.toList_eq, ByteArray.toList_eq] at e
    exact ByteArray.ext (Array.toList_inj.1 e)
  · rintro rfl; rfl

set_option maxRecDepth 20000 in
set_option maxHeartbeats 4000000 in
theorem vBy_any (r : Rl) (sa : Option Addr) (sc : Nat) (ps : List Pr) (ta : Option Addr) (tc : Nat) (qs : List Pr) (w : World) (hr : RlAt w r) (okr : RlOk r) (hp : PairsAt w sa ps) (hq : PairsAt w ta qs) (hpn : ps.length ≤ 9223372036854775807) (hqn : qs.length ≤ 9223372036854775807)
    (hpv : ∀ x ∈ ps, x.2.size ≤ 1000) (hqv : ∀ x ∈ qs, x.2.size ≤ 1000) :
    Calls Tryd.prog 22 #[.agg #[.slice r.sa r.src.length r.sc, .slice r.ta r.tgt.length r.tc, .slice r.ea r.eqs.length r.ec], .slice sa ps.length sc, .slice ta qs.length tc] w fun e w' => Tells (byP r ps qs) e ∧ Below w.heap.size w w' := by
  have kM : maxLen = 9223372036854775807 := rfl
  have d1 := (Below.refl w.heap.size w).alloc (Nat.le_refl _) (.cells #[.slice r.sa r.src.length r.sc, .slice r.ta r.tgt.length r.tc, .slice r.ea r.eqs.length r.ec] 38)
  have k1 : RlBlk (w.alloc (.cells #[.slice r.sa r.src.length r.sc, .slice r.ta r.tgt.length r.tc, .slice r.ea r.eqs.length r.ec] 38)) w.heap.size r := heap_new w _
  have HM1 := Lib.hid (fun u (hb : Below w.heap.size w u) => nAll_any r.sa r.sc r.src sa sc ps u (hr.1.below hb (Nat.le_refl _)) (by have := okr.1.1; omega) (fun m hm => by have := (okr.1.2 m hm).1; omega) (hp.below hb (Nat.le_refl _)) hpn hpv)
  have HM2 := Lib.hid (fun u (hb : Below w.heap.size w u) => nAll_any r.ta r.tc r.tgt ta tc qs u (hr.2.1.below hb (Nat.le_refl _)) (by have := okr.2.1.1; omega) (fun m hm => by have := (okr.2.1.2 m hm).1; omega) (hq.below hb (Nat.le_refl _)) hqn hqv)
  have HM3 := Lib.hid (fun u (hb : Below w.heap.size w u) => nAll_any r.ta r.tc r.tgt sa sc ps u (hr.2.1.below hb (Nat.le_refl _)) (by have := okr.2.1.1; omega) (fun m hm => by have := (okr.2.1.2 m hm).1; omega) (hp.below hb (Nat.le_refl _)) hpn hpv)
  have HM4 := Lib.hid (fun u (hb : Below w.heap.size w u) => nAll_any r.sa r.sc r.src ta tc qs u (hr.1.below hb (Nat.le_refl _)) (by have := okr.1.1; omega) (fun m hm => by have := (okr.1.2 m hm).1; omega) (hq.below hb (Nat.le_refl _)) hqn hqv)
  have HG1 := Lib.hid (fun s u (hb : Below w.heap.size w u) => refGet_any sa sc ps s u (hp.below hb (Nat.le_refl _)) hpn _ rfl)
  have HG2 := Lib.hid (fun s u (hb : Below w.heap.size w u) => refGet_any ta tc qs s u (hq.below hb (Nat.le_refl _)) hqn _ rfl)
  have HS := Lib.hid hr.2.2
  have hln : r.eqs.length ≤ 9223372036854775807 := by have := okr.2.2.1.1; omega
  have HF : Hid (byP r ps qs ↔ (∀ x ∈ r.eqs, (getV ps x.toList) = (getV qs x.toList)) ∧ (∀ m ∈ r.src, mAsk ps m) ∧ (∀ m ∈ r.tgt, mAsk qs m) ∧ ¬ ((∀ m ∈ r.tgt, mAsk ps m) ∧ ∀ m ∈ r.src, mAsk qs m)) := Lib.hid Iff.rfl
  have K1 := Lib.hid k1
  have D1 := Lib.hid d1
  generalize byP r ps qs = P at *
  clear d1 k1 hr okr hp hq hpv hqv
  generalize (∀ m ∈ r.src, mAsk ps m) = P1 at *
  generalize (∀ m ∈ r.tgt, mAsk qs m) = P2 at *
  generalize (∀ m ∈ r.tgt, mAsk ps m) = P3 at *
  generalize (∀ m ∈ r.src, mAsk qs m) = P4 at *
  have c0 := K1.out.c0
  have H1 := Lib.hid (HM1.out _ D1.out)
  go_enter Tryd.func22, Tryd.ntmps22
  go_wp2_with (go_at_call 47; refine H1.out.mono ?_; rintro e w5 ⟨⟨b1, rfl, hb1⟩, q5⟩; have HB1 := Lib.hid hb1; clear hb1; refine Hid.out ?_)
  refine Lib.hid ?_
  have D5 := Lib.hid (D1.out.trans (q5.mono D1.out.size))
  have K5 := Lib.hid (K1.out.below q5)
  clear q5 D1 K1 H1 c0
  cases b1 with
  | false =>
    have HT : Hid (Tells P (.returned (.bool false))) := Lib.hid ⟨false, rfl, ⟨fun h => (by cases h), fun h => by have := HB1.out.2 (HF.out.1 h).2.1; cases this⟩⟩
    clear HF HB1
    go_wp2
    go_ret
    exact ⟨HT.out, D5.out⟩
  | true =>
  have HP1 : Hid P1 := Lib.hid (HB1.out.1 rfl)
  have c0 := K5.out.c1
  have H2 := Lib.hid (HM2.out _ D5.out)
  clear HB1
  go_wp2_with (go_at_call 47; refine H2.out.mono ?_; rintro e w6 ⟨⟨b2, rfl, hb2⟩, q6⟩; have HB2 := Lib.hid hb2; clear hb2; refine Hid.out ?_)
  refine Lib.hid ?_
  have D6 := Lib.hid (D5.out.trans (q6.mono D5.out.size))
  have K6 := Lib.hid (K5.out.below q6)
  clear q6 D5 K5 H2 c0
  cases b2 with
  | false =>
    have HT : Hid (Tells P (.returned (.bool false))) := Lib.hid ⟨false, rfl, ⟨fun h => (by cases h), fun h => by have := HB2.out.2 (HF.out.1 h).2.2.1; cases this⟩⟩
    clear HF HB2
    go_wp2
    go_ret
    exact ⟨HT.out, D6.out⟩
  | true =>
  have HP2 : Hid P2 := Lib.hid (HB2.out.1 rfl)
  clear HB2 HM1 HM2
  go_wp2
  go_loopw [7] (fun i wr => ∃ k : Nat, k ≤ r.eqs.length ∧ i = .int .i64 k ∧ Hid (Below w.heap.size w wr) ∧ Hid (RlBlk wr w.heap.size r) ∧ Hid (∀ j (_ : j < k) (hj : j < r.eqs.length), getV ps r.eqs[j].toList = getV qs r.eqs[j].toList)) (fun i _ => r.eqs.length - (intOf i).toNat)
  case atStart => exact ⟨0, Nat.zero_le _, rfl, D6, K6, Lib.hid fun j hj => absurd hj (Nat.not_lt_zero _)⟩
  case round =>
    clear D6 K6
    obtain ⟨k, hk, rfl, HB, HK, HA⟩ := hrel
    have ce := HK.out.c2
    by_cases hlt : k < r.eqs.length
    · have hkl : (k : Int) < (r.eqs.length : Int) := by omega
      obtain ⟨eb, eo, hea, hbl, hc⟩ := HS.out (by omega)
      have ck : wr.cell? ⟨eb, eo + k, none⟩ = some (.string r.eqs[k]) := (HB.out.cell (p := ⟨eb, eo + k, none⟩) hbl).trans (hc k hlt)
      rw [hea] at ce
      have HN1 : Hid (getV ps r.eqs[k].toList ≠ getV qs r.eqs[k].toList → ¬ P) := Lib.hid fun h hp => h ((HF.out.1 hp).1 _ (List.getElem_mem hlt))
      have HA2 : Hid (getV ps r.eqs[k].toList = getV qs r.eqs[k].toList → ∀ j (_ : j < k + 1) (hj : j < r.eqs.length), getV ps r.eqs[j].toList = getV qs r.eqs[j].toList) := Lib.hid fun h0 j hj hl => by
        by_cases e : j = k
        · subst e; exact h0
        · exact HA.out j (by omega) hl
      have H1 := Lib.hid (HG1.out r.eqs[k] wr.drew HB.out.drew)
      have H2 := Lib.hid (HG2.out r.eqs[k] wr.drew HB.out.drew)
      have HEq := Lib.hid (eq_beq (a := getV ps r.eqs[k].toList) (b := getV qs r.eqs[k].toList))
      clear hc HA hea
      generalize getV ps r.eqs[k].toList = V1 at *
      generalize getV qs r.eqs[k].toList = V2 at *
      generalize r.eqs[k] = s at *
      go_wp2_with fail
      refine wp_region_any (by kernel_rfl) ?_
      change wpAny _ _ _ _ _ _ _ (World.drew _)
      have hS : (fun w' : World => w'.cell? ⟨w.heap.size, 2, none⟩ = some (.slice (some ⟨eb, eo, none⟩) r.eqs.length r.ec) ∧ w'.cell? ⟨eb, eo + k, none⟩ = some (.string s)) wr.drew := ⟨ce, ck⟩
      refine wpAny_of_held (S := fun w' => w'.cell? ⟨w.heap.size, 2, none⟩ = some (.slice (some ⟨eb, eo, none⟩) r.eqs.length r.ec) ∧ w'.cell? ⟨eb, eo + k, none⟩ = some (.string s)) _ _ _ _ ?_
      refine wpAnyH_take_at (i := 0) (some 27) (v := ?_) rfl rfl (by as_aux_lemma => kernel_rfl) (by as_aux_lemma => kernel_rfl) (by as_aux_lemma => kernel_rfl) (fun _ _ _ h => h) (Or.inl ⟨by kernel_rfl, ?_⟩) hS ?_
      rotate_left
      · intro w hSw; obtain ⟨e1, e2⟩ := hSw; go_simp
        first | done | with_reducible rfl
      skip
      refine wpAnyH_take_at (i := 1) (some 28) (v := ?_) rfl rfl (by as_aux_lemma => kernel_rfl) (by as_aux_lemma => kernel_rfl) (by as_aux_lemma => kernel_rfl) (fun _ _ _ h => h) (Or.inl ⟨by kernel_rfl, ?_⟩) hS ?_
      rotate_left
      · intro w hSw; obtain ⟨e1, e2⟩ := hSw; go_simp
        first | done | with_reducible rfl
      skip
      refine wpAnyH_take_at (i := 2) (some 29) (v := ?_) rfl rfl (by as_aux_lemma => kernel_rfl) (by as_aux_lemma => kernel_rfl) (by as_aux_lemma => kernel_rfl) (fun _ _ _ h => h) (Or.inl ⟨by kernel_rfl, ?_⟩) hS ?_
      rotate_left
      · intro w hSw; obtain ⟨e1, e2⟩ := hSw; go_simp
        first | done | with_reducible rfl
      skip
      refine wpAnyH_take_at (i := 3) (some 30) (v := ?_) rfl rfl (by as_aux_lemma => kernel_rfl) (by as_aux_lemma => kernel_rfl) (by as_aux_lemma => kernel_rfl) (fun _ _ _ h => h) (Or.inl ⟨by kernel_rfl, ?_⟩) hS ?_
      rotate_left
      · intro w hSw; obtain ⟨e1, e2⟩ := hSw; go_simp
        first | done | with_reducible rfl
      skip
      refine wpAnyH_take_at (i := 4) (some 31) (v := ?_) rfl rfl (by as_aux_lemma => kernel_rfl) (by as_aux_lemma => kernel_rfl) (by as_aux_lemma => kernel_rfl) (fun _ _ _ h => h) (Or.inl ⟨by kernel_rfl, ?_⟩) hS ?_
      rotate_left
      · intro w hSw; obtain ⟨e1, e2⟩ := hSw; go_simp
        first | done | with_reducible rfl
      skip
      refine wpAnyH_take_at (i := 5) (some 32) (v := ?_) rfl rfl (by as_aux_lemma => kernel_rfl) (by as_aux_lemma => kernel_rfl) (by as_aux_lemma => kernel_rfl) (fun _ _ _ h => h) (Or.inl ⟨by kernel_rfl, ?_⟩) hS ?_
      rotate_left
      · intro w hSw; obtain ⟨e1, e2⟩ := hSw; go_simp
        first | done | with_reducible rfl
      skip
      refine wpAnyH_take_at (i := 7) (some 34) (v := ?_) rfl rfl (by as_aux_lemma => kernel_rfl) (by as_aux_lemma => kernel_rfl) (by as_aux_lemma => kernel_rfl) (fun _ _ _ h => h) (Or.inl ⟨by kernel_rfl, ?_⟩) hS ?_
      rotate_left
      · intro w hSw; obtain ⟨e1, e2⟩ := hSw; go_simp
        first | done | with_reducible rfl
      skip
      refine wpAnyH_take_at (i := 8) (some 35) (v := ?_) rfl rfl (by as_aux_lemma => kernel_rfl) (by as_aux_lemma => kernel_rfl) (by as_aux_lemma => kernel_rfl) (fun _ _ _ h => h) (Or.inl ⟨by kernel_rfl, ?_⟩) hS ?_
      rotate_left
      · intro w hSw; obtain ⟨e1, e2⟩ := hSw; go_simp
        first | done | with_reducible rfl
      skip
      refine wpAnyH_take_at (i := 9) (some 36) (v := ?_) rfl rfl (by as_aux_lemma => kernel_rfl) (by as_aux_lemma => kernel_rfl) (by as_aux_lemma => kernel_rfl) (fun _ _ _ h => h) (Or.inl ⟨by kernel_rfl, ?_⟩) hS ?_
      rotate_left
      · intro w hSw; obtain ⟨e1, e2⟩ := hSw; go_simp
        first | done | with_reducible rfl
      skip
      refine wpAnyH_take_at (i := 10) (some 37) (v := ?_) rfl rfl (by as_aux_lemma => kernel_rfl) (by as_aux_lemma => kernel_rfl) (by as_aux_lemma => kernel_rfl) (fun _ _ _ h => h) (Or.inl ⟨by kernel_rfl, ?_⟩) hS ?_
      rotate_left
      · intro w hSw; obtain ⟨e1, e2⟩ := hSw; go_simp
        first | done | with_reducible rfl
      skip
      refine wpAnyH_take_at (i := 11) (some 38) (v := ?_) rfl rfl (by as_aux_lemma => kernel_rfl) (by as_aux_lemma => kernel_rfl) (by as_aux_lemma => kernel_rfl) (fun _ _ _ h => h) (Or.inl ⟨by kernel_rfl, ?_⟩) hS ?_
      rotate_left
      · intro w hSw; obtain ⟨e1, e2⟩ := hSw; go_simp
        first | done | with_reducible rfl
      skip
      refine wpAnyH_take_at (i := 12) (some 39) (v := ?_) rfl rfl (by as_aux_lemma => kernel_rfl) (by as_aux_lemma => kernel_rfl) (by as_aux_lemma => kernel_rfl) (fun _ _ _ h => h) (Or.inl ⟨by kernel_rfl, ?_⟩) hS ?_
      rotate_left
      · intro w hSw; obtain ⟨e1, e2⟩ := hSw; go_simp
        first | done | with_reducible rfl
      skip
      refine wpAnyH_ready (rs := [6]) (by as_aux_lemma => kernel_rfl) (by simp) ?_
      refine AllReadyH.cons rfl (fun K hK => ?_) AllReadyH.nil
      go_simp
      go_wp2_with (go_at_call 48; refine H1.out.mono ?_; rintro e w1 ⟨rfl, rfl⟩)
      refine hK.out _ _ ?_ (fun hS => ?_)
      · exact hS
      clear hK K
      refine wpAnyH_ready (rs := [13]) (by as_aux_lemma => kernel_rfl) (by simp) ?_
      refine AllReadyH.cons rfl (fun K hK => ?_) AllReadyH.nil
      go_simp
      go_wp2_with (go_at_call 48; refine H2.out.mono ?_; rintro e w2 ⟨rfl, rfl⟩)
      refine hK.out _ _ ?_ (fun hS => ?_)
      · exact hS
      clear hK K
      refine wpAnyH_take_at (i := 14) (some 41) (v := ?_) rfl rfl (by as_aux_lemma => kernel_rfl) (by as_aux_lemma => kernel_rfl) (by as_aux_lemma => kernel_rfl) (fun _ _ _ h => h) (Or.inl ⟨by kernel_rfl, ?_⟩) hS ?_
      rotate_left
      · intro w hSw; obtain ⟨e1, e2⟩ := hSw; go_simp
        first | done | with_reducible rfl
      skip
      refine wpAnyH_done (by kernel_rfl) ?_ _
      clear hS ce ck H1 H2
      go_simp
      cases hv : (V1.toList == V2.toList) with
      | true =>
        have HA3 := Lib.hid (HA2.out (HEq.out.1 hv))
        clear HA2 HN1 HEq
        go_wp2
        go_roundw
        case rel => exact ⟨k + 1, by omega, by go_num, Lib.hid HB.out.drew, Lib.hid HK.out, HA3⟩
        case measure => simp [intOf]; omega
      | false =>
        have HT : Hid (Tells P (.returned (.bool false))) := Lib.hid ⟨false, rfl, ⟨fun h => (by cases h), fun h => absurd h (HN1.out fun e => by rw [HEq.out.2 e] at hv; cases hv)⟩⟩
        clear HA2 HN1 HEq HF
        go_wp2
        go_ret
        exact ⟨HT.out, HB.out.drew⟩
    · obtain rfl : k = r.eqs.length := by omega
      have HP0 : Hid (∀ x ∈ r.eqs, (getV ps x.toList) = (getV qs x.toList)) := Lib.hid fun x hx => by
        obtain ⟨i, hi, rfl⟩ := List.getElem_of_mem hx
        exact HA.out i hi hi
      have D6 := HB
      have K6 := HK
      have c0 := K6.out.c1
      have H3 := Lib.hid (HM3.out _ D6.out)
      clear HA HB HK
      go_wp2_with (go_at_call 47; refine H3.out.mono ?_; rintro e w7 ⟨⟨b3, rfl, hb3⟩, q7⟩; have HB3 := Lib.hid hb3; clear hb3; refine Hid.out ?_)
      refine Lib.hid ?_
      have D7 := Lib.hid (D6.out.trans (q7.mono D6.out.size))
      have K7 := Lib.hid (K6.out.below q7)
      clear q7 D6 K6 H3 c0 ce
      cases b3 with
      | false =>
        have HT : Hid (Tells P (.returned (.bool true))) := Lib.hid ⟨true, rfl, ⟨fun _ => HF.out.2 ⟨HP0.out, HP1.out, HP2.out, fun h => by have := HB3.out.2 h.1; cases this⟩, fun _ => rfl⟩⟩
        clear HF HB3
        go_wp2
        go_ret
        exact ⟨HT.out, D7.out⟩
      | true =>
      have HP3 : Hid P3 := Lib.hid (HB3.out.1 rfl)
      have c0 := K7.out.c0
      have H4 := Lib.hid (HM4.out _ D7.out)
      clear HB3
      go_wp2_with (go_at_call 47; refine H4.out.mono ?_; rintro e w8 ⟨⟨b4, rfl, hb4⟩, q8⟩; have HB4 := Lib.hid hb4; clear hb4; refine Hid.out ?_)
      refine Lib.hid ?_
      have D8 := Lib.hid (D7.out.trans (q8.mono D7.out.size))
      have HT : Hid (Tells P (.returned (.bool (!b4)))) := Lib.hid ⟨!b4, rfl, by
        rw [HF.out]
        constructor
        · intro h; exact ⟨HP0.out, HP1.out, HP2.out, fun k => by rw [HB4.out.2 k.2] at h; cases h⟩
        · intro h
          cases b4 with
          | false => rfl
          | true => exact absurd ⟨HP3.out, HB4.out.1 rfl⟩ h.2.2.2⟩
      clear HB4 q8 D7 K7 H4 c0 HF
      go_wp2
      go_ret
      exact ⟨HT.out, D8.out⟩

set_option maxRecDepth 20000 in
set_option maxHeartbeats 4000000 in
theorem vMuter_any (a : Option Addr) (c : Nat) (rs : List Rl) (fa : Option Addr) (fc : Nat) (fs : List Lb) (ta : Option Addr) (tc : Nat) (qs : List Pr) (p : Rl → Lb → Bool) (hpb : PBy qs p) (w : World) (hr : RlsAt w a rs) (okr : ∀ r ∈ rs, RlOk r) (hrn : rs.length ≤ 9223372036854775807) (hf : LbsAt w fa fs) (okf : ∀ x ∈ fs, LbOk x) (hfv : ∀ x ∈ fs, ∀ y ∈ x.ps, y.2.size ≤ 1000) (hfn : fs.length ≤ 9223372036854775807) (hq : PairsAt w ta qs) (hqn : qs.length ≤ 9223372036854775807) (hqv : ∀ x ∈ qs, x.2.size ≤ 1000) :
    Calls Tryd.prog 24 #[.slice a rs.length c, .slice fa fs.length fc, .slice ta qs.length tc] w fun e w' => e = .returned (.tuple #[.int .i64 (mutI p fs rs 0).1, .int .i64 (mutI p fs rs 0).2]) ∧ Below w.heap.size w w' := by
  have HR := Lib.hid hr
  have HF := Lib.hid hf
  have HOk := Lib.hid okr
  have HBy := Lib.hid (fun (r : Rl) (ok : RlOk r) (x : Lb) (hx : x ∈ fs) (u : World) (hb : Below w.heap.size w u) (hru : RlAt u r) =>
    (vBy_any r x.a x.c x.ps ta tc qs u hru ok ((hf.below hb (Nat.le_refl _)).mem hx) (hq.below hb (Nat.le_refl _)) (okf x hx).1 hqn (hfv x hx) hqv).mono fun e w' ⟨h1, h2⟩ => (⟨tells_bool h1 (hpb r x), h2⟩ : e = Ending.returned (.bool (p r x)) ∧ Below u.heap.size u w'))
  obtain ⟨R, HM⟩ : ∃ R, Hid (mutI p fs rs 0 = R) := ⟨_, Lib.hid rfl⟩
  rw [HM.out]
  obtain ⟨R1, R2⟩ := R
  simp only
  clear hr okr hf okf hq hqv hpb hfv
  go_enter Tryd.func24, Tryd.ntmps24
  go_wp2
  go_loopw [8] (fun i wr => ∃ k : Nat, k ≤ rs.length ∧ i = .int .i64 k ∧ Hid (Below w.heap.size w wr) ∧ Hid (∀ j (_ : j < k) (hj : j < rs.length), ¬ 0 ≤ hitI (p rs[j]) fs 0)) (fun i _ => rs.length - (intOf i).toNat)
  case atStart => exact ⟨0, Nat.zero_le _, rfl, Lib.hid (Below.refl _ _), Lib.hid fun j hj => absurd hj (Nat.not_lt_zero _)⟩
  case round =>
    obtain ⟨k, hk, rfl, HB, HA⟩ := hrel
    by_cases hlt : k < rs.length
    · have hkl : (k : Int) < (rs.length : Int) := by omega
      obtain ⟨b, o, rfl, hbl, hc⟩ := HR.out (by omega)
      obtain ⟨hc1, hc2⟩ := hc k hlt
      have HC0 : Hid (w.cell? ⟨b, o + k * 3, none⟩ = some (.slice rs[k].sa rs[k].src.length rs[k].sc)) := Lib.hid (hc1 0 _ rfl)
      have HC1 : Hid (w.cell? ⟨b, o + k * 3 + 1, none⟩ = some (.slice rs[k].ta rs[k].tgt.length rs[k].tc)) := Lib.hid (hc1 1 _ rfl)
      have HC2 : Hid (w.cell? ⟨b, o + k * 3 + 2, none⟩ = some (.slice rs[k].ea rs[k].eqs.length rs[k].ec)) := Lib.hid (hc1 2 _ rfl)
      have HB2 := Lib.hid (fun x hx u hb => HBy.out rs[k] (HOk.out _ (List.getElem_mem hlt)) x hx u hb ((show RlAt w rs[k] from hc2).below hb (Nat.le_refl _)))
      have HY : Hid (0 ≤ hitI (p rs[k]) fs 0 → R1 = (k : Int) ∧ R2 = hitI (p rs[k]) fs 0) := Lib.hid fun e => by
        have := HM.out.symm.trans (mut_at hlt HA.out e)
        exact ⟨congrArg Prod.fst this, congrArg Prod.snd this⟩
      have HN : Hid (¬ 0 ≤ hitI (p rs[k]) fs 0 → ∀ j (_ : j < k + 1) (hj : j < rs.length), ¬ 0 ≤ hitI (p rs[j]) fs 0) := Lib.hid fun e j hj hl => by
        by_cases e2 : j = k
        · subst e2; exact e
        · exact HA.out j (by omega) hl
      clear hc hc1 hc2 HA
      generalize p rs[k] = pr at *
      generalize rs[k].sa = x1 at *
      generalize rs[k].sc = x2 at *
      generalize rs[k].src.length = x3 at *
      generalize rs[k].ta = x4 at *
      generalize rs[k].tc = x5 at *
      generalize rs[k].tgt.length = x6 at *
      generalize rs[k].ea = x7 at *
      generalize rs[k].ec = x8 at *
      generalize rs[k].eqs.length = x9 at *
      go_wp2
      go_loopw [9] (fun i wr => ∃ n : Nat, n ≤ fs.length ∧ i = .int .i64 n ∧ Hid (Below w.heap.size w wr) ∧ Hid (∀ j (_ : j < n) (hj : j < fs.length), pr fs[j] = false)) (fun i _ => fs.length - (intOf i).toNat)
      case atStart => exact ⟨0, Nat.zero_le _, rfl, HB, Lib.hid fun j hj => absurd hj (Nat.not_lt_zero _)⟩
      case round =>
        clear HB
        obtain ⟨n, hn, rfl, HB, HA⟩ := hrel
        by_cases hlt2 : n < fs.length
        · have hnl : (n : Int) < (fs.length : Int) := by omega
          obtain ⟨fb, fo, rfl, hfl, hfc⟩ := HF.out (by omega)
          have cf : wr.cell? ⟨fb, fo + n, none⟩ = some (.slice fs[n].a fs[n].ps.length fs[n].c) := (HB.out.cell (p := ⟨fb, fo + n, none⟩) hfl).trans (hfc n hlt2).1
          have c0 : wr.cell? ⟨b, o + k * 3, none⟩ = some (.slice x1 x3 x2) := (HB.out.cell (p := ⟨b, o + k * 3, none⟩) hbl).trans HC0.out
          have c1 : wr.cell? ⟨b, o + k * 3 + 1, none⟩ = some (.slice x4 x6 x5) := (HB.out.cell (p := ⟨b, o + k * 3 + 1, none⟩) hbl).trans HC1.out
          have c2 : wr.cell? ⟨b, o + k * 3 + 2, none⟩ = some (.slice x7 x9 x8) := (HB.out.cell (p := ⟨b, o + k * 3 + 2, none⟩) hbl).trans HC2.out
          have H1 := Lib.hid (HB2.out fs[n] (List.getElem_mem hlt2) wr.drew HB.out.drew)
          have HY2 : Hid (pr fs[n] = true → hitI pr fs 0 = (n : Int)) := Lib.hid fun e => hit_at hlt2 HA.out e
          have HN2 : Hid (pr fs[n] = false → ∀ j (_ : j < n + 1) (hj : j < fs.length), pr fs[j] = false) := Lib.hid fun e j hj hl => by
            by_cases e2 : j = n
            · subst e2; exact e
            · exact HA.out j (by omega) hl
          clear hfc HA
          generalize pr fs[n] = V at *
          generalize fs[n].a = y1 at *
          generalize fs[n].ps.length = y2 at *
          generalize fs[n].c = y3 at *
          go_wp2_with fail
          refine wp_region_any (by kernel_rfl) ?_
          change wpAny _ _ _ _ _ _ _ (World.drew _)
          have hS : (fun w' : World => w'.cell? ⟨b, o + k * 3, none⟩ = some (.slice x1 x3 x2) ∧ w'.cell? ⟨b, o + k * 3 + 1, none⟩ = some (.slice x4 x6 x5) ∧ w'.cell? ⟨b, o + k * 3 + 2, none⟩ = some (.slice x7 x9 x8) ∧ w'.cell? ⟨fb, fo + n, none⟩ = some (.slice y1 y2 y3)) wr.drew := ⟨c0, c1, c2, cf⟩
          refine wpAny_of_held (S := fun w' => w'.cell? ⟨b, o + k * 3, none⟩ = some (.slice x1 x3 x2) ∧ w'.cell? ⟨b, o + k * 3 + 1, none⟩ = some (.slice x4 x6 x5) ∧ w'.cell? ⟨b, o + k * 3 + 2, none⟩ = some (.slice x7 x9 x8) ∧ w'.cell? ⟨fb, fo + n, none⟩ = some (.slice y1 y2 y3)) _ _ _ _ ?_
          refine wpAnyH_take_at (i := 0) (some 22) (v := ?_) rfl rfl (by as_aux_lemma => kernel_rfl) (by as_aux_lemma => kernel_rfl) (by as_aux_lemma => kernel_rfl) (fun _ _ _ h => h) (Or.inl ⟨by kernel_rfl, ?_⟩) hS ?_
          rotate_left
          · intro w hSw; obtain ⟨e1, e2, e3, e4⟩ := hSw; go_simp
            first | done | with_reducible rfl
          skip
          refine wpAnyH_take_at (i := 1) (some 23) (v := ?_) rfl rfl (by as_aux_lemma => kernel_rfl) (by as_aux_lemma => kernel_rfl) (by as_aux_lemma => kernel_rfl) (fun _ _ _ h => h) (Or.inl ⟨by kernel_rfl, ?_⟩) hS ?_
          rotate_left
          · intro w hSw; obtain ⟨e1, e2, e3, e4⟩ := hSw; go_simp
            first | done | with_reducible rfl
          skip
          refine wpAnyH_take_at (i := 2) (some 24) (v := ?_) rfl rfl (by as_aux_lemma => kernel_rfl) (by as_aux_lemma => kernel_rfl) (by as_aux_lemma => kernel_rfl) (fun _ _ _ h => h) (Or.inl ⟨by kernel_rfl, ?_⟩) hS ?_
          rotate_left
          · intro w hSw; obtain ⟨e1, e2, e3, e4⟩ := hSw; go_simp
            first | done | with_reducible rfl
          skip
          refine wpAnyH_take_at (i := 3) (some 25) (v := ?_) rfl rfl (by as_aux_lemma => kernel_rfl) (by as_aux_lemma => kernel_rfl) (by as_aux_lemma => kernel_rfl) (fun _ _ _ h => h) (Or.inl ⟨by kernel_rfl, ?_⟩) hS ?_
          rotate_left
          · intro w hSw; obtain ⟨e1, e2, e3, e4⟩ := hSw; go_simp
            first | done | with_reducible rfl
          skip
          refine wpAnyH_take_at (i := 4) (some 26) (v := ?_) rfl rfl (by as_aux_lemma => kernel_rfl) (by as_aux_lemma => kernel_rfl) (by as_aux_lemma => kernel_rfl) (fun _ _ _ h => h) (Or.inl ⟨by kernel_rfl, ?_⟩) hS ?_
          rotate_left
          · intro w hSw; obtain ⟨e1, e2, e3, e4⟩ := hSw; go_simp
            first | done | with_reducible rfl
          skip
          refine wpAnyH_take_at (i := 5) (some 27) (v := ?_) rfl rfl (by as_aux_lemma => kernel_rfl) (by as_aux_lemma => kernel_rfl) (by as_aux_lemma => kernel_rfl) (fun _ _ _ h => h) (Or.inl ⟨by kernel_rfl, ?_⟩) hS ?_
          rotate_left
          · intro w hSw; obtain ⟨e1, e2, e3, e4⟩ := hSw; go_simp
            first | done | with_reducible rfl
          skip
          refine wpAnyH_take_at (i := 6) (some 28) (v := ?_) rfl rfl (by as_aux_lemma => kernel_rfl) (by as_aux_lemma => kernel_rfl) (by as_aux_lemma => kernel_rfl) (fun _ _ _ h => h) (Or.inl ⟨by kernel_rfl, ?_⟩) hS ?_
          rotate_left
          · intro w hSw; obtain ⟨e1, e2, e3, e4⟩ := hSw; go_simp
            first | done | with_reducible rfl
          skip
          refine wpAnyH_take_at (i := 7) (some 29) (v := ?_) rfl rfl (by as_aux_lemma => kernel_rfl) (by as_aux_lemma => kernel_rfl) (by as_aux_lemma => kernel_rfl) (fun _ _ _ h => h) (Or.inl ⟨by kernel_rfl, ?_⟩) hS ?_
          rotate_left
          · intro w hSw; obtain ⟨e1, e2, e3, e4⟩ := hSw; go_simp
            first | done | with_reducible rfl
          skip
          refine wpAnyH_take_at (i := 8) (some 30) (v := ?_) rfl rfl (by as_aux_lemma => kernel_rfl) (by as_aux_lemma => kernel_rfl) (by as_aux_lemma => kernel_rfl) (fun _ _ _ h => h) (Or.inl ⟨by kernel_rfl, ?_⟩) hS ?_
          rotate_left
          · intro w hSw; obtain ⟨e1, e2, e3, e4⟩ := hSw; go_simp
            first | done | with_reducible rfl
          skip
          refine wpAnyH_ready (rs := [9]) (by as_aux_lemma => kernel_rfl) (by simp) ?_
          refine AllReadyH.cons rfl (fun K hK => ?_) AllReadyH.nil
          go_simp
          go_wp2_with (go_at_call 22; refine H1.out.mono ?_; rintro e w1 ⟨rfl, q1⟩)
          refine hK.out _ _ ?_ (fun hS => ?_)
          · exact ⟨(q1.cell (p := ⟨b, o + k * 3, none⟩) (World.block_lt_of_cell? _ _ hS.1)).trans hS.1, (q1.cell (p := ⟨b, o + k * 3 + 1, none⟩) (World.block_lt_of_cell? _ _ hS.2.1)).trans hS.2.1, (q1.cell (p := ⟨b, o + k * 3 + 2, none⟩) (World.block_lt_of_cell? _ _ hS.2.2.1)).trans hS.2.2.1, (q1.cell (p := ⟨fb, fo + n, none⟩) (World.block_lt_of_cell? _ _ hS.2.2.2)).trans hS.2.2.2⟩
          clear hK K
          refine wpAnyH_done (by kernel_rfl) ?_ _
          have HB9 := Lib.hid (HB.out.drew.trans (q1.mono HB.out.drew.size))
          clear hS c0 c1 c2 cf H1 q1 HB
          go_simp
          cases V with
          | true =>
            have e := HY2.out rfl
            obtain ⟨e1, e2⟩ := HY.out (by rw [e]; omega)
            rw [e] at e2
            subst e1 e2
            clear HY2 HN2 HY HN e
            go_wp2
            go_ret2
            exact ⟨rfl, HB9.out⟩
          | false =>
            have HA3 := Lib.hid (HN2.out rfl)
            clear HY2 HN2
            go_wp2
            go_roundw
            case rel => exact ⟨n + 1, by omega, by go_num, HB9, HA3⟩
            case measure => simp [intOf]; omega
        · obtain rfl : n = fs.length := by omega
          have HA3 := Lib.hid (HN.out (by rw [hit_no HA.out]; omega))
          clear HA HY HN
          go_wp2
          go_roundw
          case rel => exact ⟨k + 1, by omega, by go_num, HB, Lib.hid fun j h1 h2 => by have := HA3.out j h1 h2; omega⟩
          case measure => simp [intOf]; omega
    · obtain rfl : k = rs.length := by omega
      have e := HM.out.symm.trans (mut_no HA.out)
      obtain rfl : R1 = -1 := congrArg Prod.fst e
      obtain rfl : R2 = -1 := congrArg Prod.snd e
      clear HA e
      go_wp2
      go_ret2
      exact ⟨rfl, HB.out⟩


end Go.Proofs.YthaimnmbcbhioaaDoor
