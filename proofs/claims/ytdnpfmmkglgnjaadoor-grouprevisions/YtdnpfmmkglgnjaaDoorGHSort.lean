/-
  The reference's sorted, walked: alerts by rising keys, those of one key in their order.
-/
import Derived.Test.YtdnpfmmkglgnjaaDoorGAls
namespace Go.Proofs.YtdnpfmmkglgnjaaDoor
open Go.RowKit

theorem less_yes {x y : List UInt8} (h : x < y) : Op.bytesLess x y = true := by rw [less_eq]; exact decide_eq_true h
theorem less_no {x y : List UInt8} (h : ¬ x < y) : Op.bytesLess x y = false := by rw [less_eq]; exact decide_eq_false h

theorem insK_pos (x : Rw) : ∀ (l : List Rw) (p : Nat), p ≤ l.length → (∀ j (_ : j < p) (hl : j < l.length), ¬ x.key < l[j].key) → (∀ hp : p < l.length, x.key < l[p].key) → insK x l = l.take p ++ [x] ++ l.drop p
  | [], p, hp, _, _ => by
    have : p = 0 := by simpa using hp
    subst this
    rfl
  | y :: l, 0, _, _, h2 => by
    have h3 : x.key < y.key := h2 (by simp)
    rw [insK, if_pos h3]
    rfl
  | y :: l, p + 1, hp, h1, h2 => by
    have h3 : ¬ x.key < y.key := h1 0 (by omega) (by simp)
    rw [insK, if_neg h3, insK_pos x l p (by simpa using hp) (fun j hj hl => h1 (j + 1) (by omega) (by simpa using hl)) (fun hp => h2 (by simpa using hp))]
    rfl
theorem sortR_take (L : List Rw) (k : Nat) (hk : k < L.length) : sortR (L.take (k + 1)) = insK L[k] (sortR (L.take k)) := by
  unfold sortR
  rw [List.take_succ_eq_append_getElem hk, List.foldl_append]
  rfl
theorem OwnA.at {w : World} {B : Nat} {a : Option Addr} {n c : Nat} {L : List Rw} (h : OwnA w B (.slice a n c) L) (hp : ∀ r ∈ L, PairsAt w r.ad r.ps) : AlsAt w a L := fun hn => by
  obtain ⟨a', c', hv, -, hq, hc⟩ := h.form
  simp only [Value.slice.injEq] at hv
  obtain ⟨rfl, rfl, rfl⟩ := hv
  obtain ⟨g, rfl, -⟩ := hc 0 hn
  refine ⟨g, 0, rfl, (hq _ rfl).2.1, fun i hi => ?_⟩
  obtain ⟨g', e, h1, h2, h3⟩ := hc i hi
  obtain rfl : g = g' := by simpa using e
  rw [Nat.zero_add]
  exact ⟨h1, h2, h3, hp _ (List.getElem_mem hi)⟩
theorem AlsAt.pairs {w : World} {a : Option Addr} {L : List Rw} (h : AlsAt w a L) : ∀ r ∈ L, PairsAt w r.ad r.ps := fun r hr => by
  obtain ⟨i, hi, rfl⟩ := List.getElem_of_mem hr
  obtain ⟨b, o, -, -, hc⟩ := h (by omega)
  exact (hc i hi).2.2.2
theorem refKey_light (r : Rw) (w : World) (h : PairsAt w r.ad r.ps) (hl : RwLight r) : Calls Tryd.prog 39 #[.slice r.ad r.ps.length r.cp] w fun e w' => e = .returned (.string ⟨r.key.toArray⟩) ∧ Below w.heap.size w w' :=
  refKey_any r.ad r.cp r.ps w h (by have := hl.1; omega) (fun p hp => by have := hl.2 p hp; omega) (by have := hl.flat; omega) _ rfl

/-- What sorted tells. -/
def SrtPost (w w' : World) (n : Nat) (L : List Rw) (e : Ending) : Prop := ∃ a' c', e = .returned (.slice a' n c') ∧ AlsAt w' a' (sortR L) ∧ Below w.heap.size w w'

set_option maxHeartbeats 8000000 in
set_option maxRecDepth 100000 in
theorem hSorted_any (a : Option Addr) (c : Nat) (L : List Rw) (w : World) (h : AlsAt w a L) (hl : L.length ≤ 40) (hL : ∀ r ∈ L, RwLight r) (n : Nat) (hn : n = L.length) :
    Calls Tryd.prog 37 #[.slice a n c] w fun e w' => SrtPost w w' n L e := by
  have hnL : L.length ≤ n ∧ n ≤ L.length := by omega
  have HNL := Lib.hid hn
  have HA := Lib.hid h
  have HLi := Lib.hid hL
  have HPs := Lib.hid h.pairs
  clear h hL hn
  go_enter Tryd.func37, Tryd.ntmps37
  go_wp2
  go_loopw [3, 4] (fun v3 v4 wr => ∃ (k : Nat) (aO : Option Addr) (cO : Nat), k ≤ n ∧ v3 = .slice aO k cO ∧ v4 = .int .i64 k ∧ Hid (OwnA wr w.heap.size (.slice aO k cO) (sortR (L.take k))) ∧ Hid (Below w.heap.size w wr)) (fun _ i _ => n - (intOf i).toNat)
  case atStart => exact ⟨0, none, 0, Nat.zero_le _, rfl, rfl, Lib.hid (World.ownsRow_nil _ _ _ _), Lib.hid (Below.refl _ _)⟩
  case round =>
    obtain ⟨k, aO, cO, hk, rfl, rfl, HO, HB⟩ := hrel
    obtain ⟨wo, hwo⟩ : ∃ x, x = wr := ⟨_, rfl⟩
    subst hwo
    by_cases hlt : k < n
    · have hkl : (k : Int) < (n : Int) := by omega
      have hkL : k < L.length := by omega
      have hat := HA.out.below HB.out (Nat.le_refl _)
      obtain ⟨b, o, rfl, hbl, hc⟩ := hat (by omega)
      have hbw : b < w.heap.size := by
        obtain ⟨b', o', e, hb', -⟩ := HA.out (by omega)
        simp only [Option.some.injEq, Addr.mk.injEq] at e
        omega
      obtain ⟨hc1, hc2, hc3, hpa⟩ := hc k hkL
      have HST := Lib.hid (sortR_take L k hkL)
      have hLr := HLi.out L[k] (List.getElem_mem _)
      have HRm : Hid (∀ r ∈ sortR (L.take k), RwLight r ∧ PairsAt w r.ad r.ps) := Lib.hid fun r hr => by
        have h1 := List.mem_of_mem_take ((sortR_perm _).mem_iff.1 hr)
        exact ⟨HLi.out r h1, HPs.out r h1⟩
      have HAl : Hid ((sortR (L.take k)).length = k) := Lib.hid (by rw [sortR_len, List.length_take]; omega)
      clear hc hat
      generalize L[k] = r0 at *
      generalize sortR (L.take k) = A0 at *
      have hAl : A0.length ≤ k ∧ k ≤ A0.length := by have := HAl.out; omega
      have hown := HO.out
      have hcap : k ≤ cO ∧ (aO = none → cO = 0) := by
        rcases hown.2 with ⟨e, h0⟩ | ⟨g, cap, cur, e, -, -, hcp, -⟩
        · simp only [Value.slice.injEq] at e
          obtain ⟨rfl, rfl, rfl⟩ := e
          exact ⟨Nat.le_refl _, fun _ => rfl⟩
        · simp only [Value.slice.injEq] at e
          obtain ⟨rfl, -, rfl⟩ := e
          exact ⟨by have := HAl.out; omega, fun e => by cases e⟩
      clear hown
      have HK := Lib.hid (refKey_light r0 wo hpa hLr)
      go_wp2_with (go_at_call 39; refine HK.out.mono ?_; rintro e w2 ⟨rfl, hb2⟩; refine Hid.out ?_)
      refine Lib.hid ?_
      have HB2 := Lib.hid (HB.out.trans (hb2.mono HB.out.size))
      have HO2 := Lib.hid (HO.out.onB hb2 (Nat.le_refl _))
      have HC3 := Lib.hid (show C3 w2 b (o + k * 3) r0 from (show C3 wo b (o + k * 3) r0 from ⟨hbl, hc1, hc2, hc3⟩).below hb2 (Nat.le_refl _))
      have HPr := Lib.hid (hpa.below hb2 (Nat.le_refl _))
      clear hb2 HK HB HO hc1 hc2 hc3 hpa hbl
      go_wp2
      go_loopw [6] (fun v6 wr => ∃ (m : Nat), m ≤ k ∧ v6 = .int .i64 m ∧ Hid (∀ j (_ : j < m) (hl : j < A0.length), ¬ r0.key < A0[j].key) ∧ Hid (Below w2.heap.size w2 wr)) (fun i _ => k - (intOf i).toNat)
      case atStart => exact ⟨0, Nat.zero_le _, rfl, Lib.hid fun j hj => absurd hj (Nat.not_lt_zero _), Lib.hid (Below.refl _ _)⟩
      case round =>
        obtain ⟨m, hm, rfl, HP, HB3⟩ := hrel
        have HO3 := Lib.hid (HO2.out.onB HB3.out (Nat.le_refl _))
        have hpw : ∀ r ∈ A0, PairsAt wr r.ad r.ps := fun r hr => ((HRm.out r hr).2.below HB2.out (Nat.le_refl _)).below HB3.out (Nat.le_refl _)
        have hatO := HO3.out.at hpw
        have HATO := Lib.hid (And.intro hatO hpw)
        by_cases hmk : m < k
        · have hmz : (m : Int) < (k : Int) := by omega
          have hmA : m < A0.length := by omega
          obtain ⟨g, o2, rfl, hgl, hcc⟩ := hatO (by omega)
          obtain ⟨hd1, -, -, hpm⟩ := hcc m hmA
          have hLm := (HRm.out A0[m] (List.getElem_mem _)).1
          have HKm := Lib.hid (refKey_light A0[m] wr hpm hLm)
          by_cases hle : r0.key < A0[m].key
          · have hl1 := less_yes hle
            have hl2 : Op.bytesLess A0[m].key r0.key = false := less_no (key_asymm hle)
            have HIN : Hid (insK r0 A0 = A0.take m ++ [r0] ++ A0.drop m) := Lib.hid (insK_pos r0 A0 m (by omega) HP.out fun _ => hle)
            have hne : (A0[m].key == r0.key) = false := by rw [beq_eq_false_iff_ne]; intro e; rw [e] at hle; exact key_irrefl _ hle
            have hlq : (Op.bytesLess A0[m].key r0.key || A0[m].key == r0.key) = false := by rw [hl2, hne]; rfl
            clear hcc hle hatO hpw HP
            generalize A0[m].key = km at *
            generalize A0[m].ps.length = nm at *
            generalize A0[m].ad = am at *
            generalize A0[m].cp = cm at *
            go_wp2_with (go_at_call 39; refine HKm.out.mono ?_; rintro e w4 ⟨rfl, hb4⟩; refine Hid.out ?_)
            refine Lib.hid ?_
            have hb24 : Below w2.heap.size w2 w4 := HB3.out.trans (hb4.mono HB3.out.size)
            have hown4 := HO2.out.onB hb24 (Nat.le_refl _)
            have hpw4 : ∀ r ∈ A0, PairsAt w4 r.ad r.ps := fun r hr => ((HRm.out r hr).2.below HB2.out (Nat.le_refl _)).below hb24 (Nat.le_refl _)
            have hat4 := hown4.at hpw4
            have hC := (HC3.out.below hb24 (Nat.le_refl _))
            have hpr4 := HPr.out.below hb24 (Nat.le_refl _)
            have HB24 := Lib.hid (HB2.out.trans (hb24.mono HB2.out.size))
            have hw4s : w.heap.size ≤ w4.heap.size := HB24.out.size
            have HTK : Hid (m = (A0.take m).length) := Lib.hid (by rw [List.length_take]; omega)
            have hCd := hC.below ((Below.refl w4.heap.size w4).drew) (Nat.le_refl _)
            have hmc : m ≤ cO := by omega
            clear hb24 hb4 HATO HO3
            go_wp2_with fail
            refine wp_region_any (by kernel_rfl) ?_
            change wpAny _ _ _ _ _ _ _ (World.drew _)
            have hS : (fun w' : World => C3 w' b (o + k * 3) r0) w4.drew := hCd
            refine wpAny_of_held (S := fun w' => C3 w' b (o + k * 3) r0) _ _ _ _ ?_
            refine wpAnyH_takeA (i := 0) (some 36) (v := ?_) rfl rfl (by as_aux_lemma => kernel_rfl) (by as_aux_lemma => kernel_rfl) (by as_aux_lemma => kernel_rfl) (fun _ _ _ h => h) (Or.inl ⟨by kernel_rfl, ?_⟩) hS ?_
            rotate_left
            · intro w hSw; obtain ⟨q0, q1, q2, q3⟩ := hSw; go_simp
              first | done | with_reducible rfl
            refine wpAnyH_takeA (i := 1) (some 37) (v := ?_) rfl rfl (by as_aux_lemma => kernel_rfl) (by as_aux_lemma => kernel_rfl) (by as_aux_lemma => kernel_rfl) (fun _ _ _ h => h) (Or.inl ⟨by kernel_rfl, ?_⟩) hS ?_
            rotate_left
            · intro w hSw; obtain ⟨q0, q1, q2, q3⟩ := hSw; go_simp
              first | done | with_reducible rfl
            refine wpAnyH_takeA (i := 2) (some 38) (v := ?_) rfl rfl (by as_aux_lemma => kernel_rfl) (by as_aux_lemma => kernel_rfl) (by as_aux_lemma => kernel_rfl) (fun _ _ _ h => h) (Or.inl ⟨by kernel_rfl, ?_⟩) hS ?_
            rotate_left
            · intro w hSw; obtain ⟨q0, q1, q2, q3⟩ := hSw; go_simp
              first | done | with_reducible rfl
            refine wpAnyH_takeA (i := 3) (some 39) (v := ?_) rfl rfl (by as_aux_lemma => kernel_rfl) (by as_aux_lemma => kernel_rfl) (by as_aux_lemma => kernel_rfl) (fun _ _ _ h => h) (Or.inl ⟨by kernel_rfl, ?_⟩) hS ?_
            rotate_left
            · intro w hSw; obtain ⟨q0, q1, q2, q3⟩ := hSw; go_simp
              first | done | with_reducible rfl
            refine wpAnyH_takeA (i := 5) (some 41) (v := ?_) rfl rfl (by as_aux_lemma => kernel_rfl) (by as_aux_lemma => kernel_rfl) (by as_aux_lemma => kernel_rfl) (fun _ _ _ h => h) (Or.inl ⟨by kernel_rfl, ?_⟩) hS ?_
            rotate_left
            · intro w hSw; obtain ⟨q0, q1, q2, q3⟩ := hSw; go_simp
              first | done | with_reducible rfl
            refine wpAnyH_takeA (i := 6) (some 42) (v := ?_) rfl rfl (by as_aux_lemma => kernel_rfl) (by as_aux_lemma => kernel_rfl) (by as_aux_lemma => kernel_rfl) (fun _ _ _ h => h) (Or.inl ⟨by kernel_rfl, ?_⟩) hS ?_
            rotate_left
            · intro w hSw; obtain ⟨q0, q1, q2, q3⟩ := hSw; go_simp
              first | done | with_reducible rfl
            refine wpAnyH_takeA (i := 7) (some 43) (v := ?_) rfl rfl (by as_aux_lemma => kernel_rfl) (by as_aux_lemma => kernel_rfl) (by as_aux_lemma => kernel_rfl) (fun _ _ _ h => h) (Or.inl ⟨by kernel_rfl, ?_⟩) hS ?_
            rotate_left
            · intro w hSw; obtain ⟨q0, q1, q2, q3⟩ := hSw; go_simp
              first | done | with_reducible rfl
            refine wpAnyH_takeA (i := 8) (some 44) (v := ?_) rfl rfl (by as_aux_lemma => kernel_rfl) (by as_aux_lemma => kernel_rfl) (by as_aux_lemma => kernel_rfl) (fun _ _ _ h => h) (Or.inl ⟨by kernel_rfl, ?_⟩) hS ?_
            rotate_left
            · intro w hSw; obtain ⟨q0, q1, q2, q3⟩ := hSw; go_simp
              first | done | with_reducible rfl
            refine wpAnyH_ready (rs := [4, 9]) (by as_aux_lemma => kernel_rfl) (by simp) ?_
            refine AllReadyH.cons rfl (fun K hK => ?_) (AllReadyH.cons rfl (fun K hK => ?_) AllReadyH.nil)
            · have own0 : OwnA w4.drew w4.heap.size (.slice none 0 0) [] := World.ownsRow_nil _ _ _ _
              have hat0 : AlsAt w4.drew (some ⟨g, o2, none⟩) (A0.take m) := hat4.take m
              have hle0 : ([] : List Rw).length + (A0.take m).length ≤ 1000000 := by rw [← HTK.out]; simp; omega
              have hsz0 : w4.heap.size ≤ w4.drew.heap.size := Nat.le_refl _
              refine step_append_als (w := w4.drew) rfl _ _ rfl w4.heap.size (.slice none 0 0) [] (by kernel_rfl) own0 (some ⟨g, o2, none⟩) m cO (A0.take m) (by kernel_rfl) HTK.out hat0 hcap.2 hle0 hsz0 ?_
              intro v8 w8 own8a g8
              have q8 : Below w4.heap.size w4 w8 := (Below.refl w4.heap.size w4).drew.grown g8 (Nat.le_refl _) (fun j e => by cases e)
              refine hK.out _ _ (hC.below q8 (Nat.le_refl _)) (fun hS => ?_)
              clear hK K
              refine wpAnyH_ready (rs := [9]) (by as_aux_lemma => kernel_rfl) (by simp) ?_
              refine AllReadyH.cons rfl (fun K hK => ?_) AllReadyH.nil
              go_simp
              have d9 := (Below.refl w8.heap.size w8).alloc (Nat.le_refl _) (.cells #[.slice r0.ad r0.ps.length r0.cp, .int .i64 r0.st, .int .i64 r0.en] 34)
              refine hK.out _ _ (hS.below d9 (Nat.le_refl _)) (fun hS => ?_)
              clear hK K
              have own9 := OwnA.onB own8a d9 (Nat.le_refl _)
              have hx9 : AlsAt (w8.alloc (.cells #[.slice r0.ad r0.ps.length r0.cp, .int .i64 r0.st, .int .i64 r0.en] 34)) (some ⟨w8.heap.size, 0, none⟩) [r0] := alsAt_one w8 r0 ((hpr4.below q8 (Nat.le_refl _)).below d9 (Nat.le_refl _))
              refine wpAnyH_ready (rs := [10]) (by as_aux_lemma => kernel_rfl) (by simp) ?_
              refine AllReadyH.cons rfl (fun K hK => ?_) AllReadyH.nil
              refine step_append_als rfl _ _ rfl w4.heap.size v8 ([] ++ A0.take m) (by kernel_rfl) own9 (some ⟨w8.heap.size, 0, none⟩) 1 1 [r0] (by kernel_rfl) rfl hx9 (fun e => by cases e) (by have := HTK.out; simp at this ⊢; omega) (Nat.le_trans q8.size d9.size) ?_
              intro v10 w10 own10 g10
              have q10 : Below w4.heap.size w4 w10 := (q8.trans (d9.mono q8.size)).grown g10 (Nat.le_trans q8.size d9.size) (fun j e => (World.ownsRow.lt own9 j e).1)
              refine hK.out _ _ (hC.below q10 (Nat.le_refl _)) (fun hS => ?_)
              clear hK K d9 own9 hx9 g10 own8a g8 q8
              refine wpAnyH_takeA (i := 11) (some 7) (v := ?_) rfl rfl (by as_aux_lemma => kernel_rfl) (by as_aux_lemma => kernel_rfl) (by as_aux_lemma => kernel_rfl) (fun _ _ _ h => h) (Or.inl ⟨by kernel_rfl, ?_⟩) hS ?_
              rotate_left
              · intro w hSw; obtain ⟨q0, q1, q2, q3⟩ := hSw; go_simp
                first | done | with_reducible rfl
              refine wpAnyH_done (by kernel_rfl) ?_ _
              rw [List.nil_append] at own10
              obtain ⟨a10, c10, rfl, -⟩ := own10.form
              have hat10 : AlsAt w10 (some ⟨g, o2, none⟩) A0 := hat4.below q10 (Nat.le_refl _)
              obtain ⟨A10, HA10⟩ : ∃ l, Hid (A0.take m ++ [r0] = l) := ⟨_, Lib.hid rfl⟩
              obtain ⟨D10, HD10⟩ : ∃ l, Hid (A0.drop m = l) := ⟨_, Lib.hid rfl⟩
              rw [HA10.out] at own10 ⊢
              have HN10 : Hid (A10.length = m + 1) := Lib.hid (by rw [← HA10.out, List.length_append, ← HTK.out]; rfl)
              generalize hN10 : A10.length = n10 at *
              have HNq := Lib.hid hN10
              have hn10 : n10 ≤ m + 1 ∧ m + 1 ≤ n10 := by have := HN10.out; omega
              clear hN10
              have HLN : Hid (k - m = D10.length) := Lib.hid (by rw [← HD10.out, List.length_drop, HAl.out])
              have hle10 : A10.length + D10.length ≤ 1000000 := by have := HLN.out; have := HNq.out; omega
              have hsz10 : w4.heap.size ≤ w10.heap.size := q10.size
              have HB10 := Lib.hid (HB24.out.trans (q10.mono hw4s))
              have HFin : Hid (∀ v12 w12, OwnA w12 w4.heap.size v12 (A10 ++ D10) → w10.grownBy w12 (Value.slice a10 n10 c10).ownBlock → ∃ a12 c12, v12 = .slice a12 (k + 1) c12 ∧ OwnA w12 w.heap.size (.slice a12 (k + 1) c12) (sortR (L.take (k + 1))) ∧ Below w.heap.size w w12) := Lib.hid fun v12 w12 own12 g12 => by
                obtain ⟨a12, c12, e12, -⟩ := own12.form
                have hlen : (A10 ++ D10).length = k + 1 := by rw [List.length_append]; have := HLN.out; have := HNq.out; omega
                rw [hlen] at e12
                refine ⟨a12, c12, e12, ?_, HB10.out.grown g12 (Nat.le_trans hw4s hsz10) (fun j e => Nat.le_trans hw4s (World.ownsRow.lt own10 j e).1)⟩
                rw [HST.out, HIN.out, HA10.out, HD10.out, ← e12]
                exact baseA own12 hw4s
              have hkn : (m : Int) ≤ (k : Int) := by omega
              have hkc : (m : Int) ≤ (cO : Int) := by omega
              clear hS hCd hC hpr4 hat4 hpw4 hown4 HTK HN10 q10 HB24 HIN HC3 HPr
              go_simp
              by_cases hce : cO = m
              · have hnil0 : AlsAt w10 (some ⟨g, o2, none⟩) D10 := by
                  have : D10 = [] := by rw [← HD10.out]; exact List.drop_eq_nil_of_le (by omega)
                  subst this
                  exact fun h => by simp at h
                have HL0 : Hid (0 = D10.length) := Lib.hid (by rw [← HLN.out]; omega)
                have HCE := Lib.hid hce
                replace hce := hce.symm
                subst hce
                go_wp2_with (at_builtin; refine wpList_append_als _ rfl _ _ rfl w4.heap.size _ _ rfl own10 (some ⟨g, o2, none⟩) _ _ D10 rfl (by have := HL0.out; omega) hnil0 (by simp) hle10 hsz10 ?_; refine Hid.out ?_)
                refine Lib.hid ?_
                intro v12 w12 own12 g12
                obtain ⟨a12, c12, rfl, own13, hb13⟩ := HFin.out v12 w12 own12 g12
                have HO13 := Lib.hid own13
                have HB13 := Lib.hid hb13
                clear own12 g12 own10 HFin own13 hb13 hat10 hnil0
                go_wp2
                go_roundw
                case rel => exact ⟨k + 1, a12, c12, by omega, rfl, by go_num, HO13, HB13⟩
                case measure => simp [intOf]; omega
              · have hcl : m < cO := by omega
                have hdr := AlsAt.drop hat10 m
                rw [HD10.out] at hdr
                have hce' : ¬ (cO : Int) = (m : Int) := by omega
                go_wp2_with (at_builtin; refine wpList_append_als _ rfl _ _ rfl w4.heap.size _ _ rfl own10 (some ⟨g, o2 + m * 3, none⟩) _ _ D10 rfl HLN.out hdr (fun e => by cases e) hle10 hsz10 ?_; refine Hid.out ?_)
                refine Lib.hid ?_
                intro v12 w12 own12 g12
                obtain ⟨a12, c12, rfl, own13, hb13⟩ := HFin.out v12 w12 own12 g12
                have HO13 := Lib.hid own13
                have HB13 := Lib.hid hb13
                clear own12 g12 own10 HFin own13 hb13 hat10 hdr
                go_wp2
                go_roundw
                case rel => exact ⟨k + 1, a12, c12, by omega, rfl, by go_num, HO13, HB13⟩
                case measure => simp [intOf]; omega
            · go_simp
              have d8 := (Below.refl w4.heap.size w4).alloc (Nat.le_refl _) (.cells #[.slice r0.ad r0.ps.length r0.cp, .int .i64 r0.st, .int .i64 r0.en] 34)
              have d8' : Below w4.heap.size w4 (w4.alloc (.cells #[.slice r0.ad r0.ps.length r0.cp, .int .i64 r0.st, .int .i64 r0.en] 34)).drew := d8.drew
              refine hK.out _ _ (hC.below d8' (Nat.le_refl _)) (fun hS => ?_)
              clear hK K
              have own0 : OwnA (w4.alloc (.cells #[.slice r0.ad r0.ps.length r0.cp, .int .i64 r0.st, .int .i64 r0.en] 34)).drew w4.heap.size (.slice none 0 0) [] := World.ownsRow_nil _ _ _ _
              have hat0 : AlsAt (w4.alloc (.cells #[.slice r0.ad r0.ps.length r0.cp, .int .i64 r0.st, .int .i64 r0.en] 34)).drew (some ⟨g, o2, none⟩) (A0.take m) := (hat4.below d8 (Nat.le_refl _)).take m
              have hle0 : ([] : List Rw).length + (A0.take m).length ≤ 1000000 := by rw [← HTK.out]; simp; omega
              have hsz0 : w4.heap.size ≤ (w4.alloc (.cells #[.slice r0.ad r0.ps.length r0.cp, .int .i64 r0.st, .int .i64 r0.en] 34)).drew.heap.size := d8.size
              refine wpAnyH_ready (rs := [4]) (by as_aux_lemma => kernel_rfl) (by simp) ?_
              refine AllReadyH.cons rfl (fun K hK => ?_) AllReadyH.nil
              refine step_append_als (w := (w4.alloc (.cells #[.slice r0.ad r0.ps.length r0.cp, .int .i64 r0.st, .int .i64 r0.en] 34)).drew) rfl _ _ rfl w4.heap.size (.slice none 0 0) [] (by kernel_rfl) own0 (some ⟨g, o2, none⟩) m cO (A0.take m) (by kernel_rfl) HTK.out hat0 hcap.2 hle0 hsz0 ?_
              intro v8 w8 own8a g8
              have q8' : Below (w4.alloc (.cells #[.slice r0.ad r0.ps.length r0.cp, .int .i64 r0.st, .int .i64 r0.en] 34)).heap.size (w4.alloc (.cells #[.slice r0.ad r0.ps.length r0.cp, .int .i64 r0.st, .int .i64 r0.en] 34)) w8 := (Below.refl _ _).drew.grown g8 (Nat.le_refl _) (fun j e => by cases e)
              have q8 : Below w4.heap.size w4 w8 := d8.trans (q8'.mono d8.size)
              refine hK.out _ _ (hC.below q8 (Nat.le_refl _)) (fun hS => ?_)
              clear hK K
              have hx9 : AlsAt w8 (some ⟨w4.heap.size, 0, none⟩) [r0] := (alsAt_one w4 r0 (hpr4.below d8 (Nat.le_refl _))).below q8' (Nat.le_refl _)
              refine wpAnyH_ready (rs := [10]) (by as_aux_lemma => kernel_rfl) (by simp) ?_
              refine AllReadyH.cons rfl (fun K hK => ?_) AllReadyH.nil
              refine step_append_als rfl _ _ rfl w4.heap.size v8 ([] ++ A0.take m) (by kernel_rfl) own8a (some ⟨w4.heap.size, 0, none⟩) 1 1 [r0] (by kernel_rfl) rfl hx9 (fun e => by cases e) (by have := HTK.out; simp at this ⊢; omega) q8.size ?_
              intro v10 w10 own10 g10
              have q10 : Below w4.heap.size w4 w10 := q8.grown g10 q8.size (fun j e => (World.ownsRow.lt own8a j e).1)
              refine hK.out _ _ (hC.below q10 (Nat.le_refl _)) (fun hS => ?_)
              clear hK K d8 d8' q8' hx9 g10 own8a g8 q8 own0 hat0 hle0 hsz0
              refine wpAnyH_takeA (i := 11) (some 7) (v := ?_) rfl rfl (by as_aux_lemma => kernel_rfl) (by as_aux_lemma => kernel_rfl) (by as_aux_lemma => kernel_rfl) (fun _ _ _ h => h) (Or.inl ⟨by kernel_rfl, ?_⟩) hS ?_
              rotate_left
              · intro w hSw; obtain ⟨q0, q1, q2, q3⟩ := hSw; go_simp
                first | done | with_reducible rfl
              refine wpAnyH_done (by kernel_rfl) ?_ _
              rw [List.nil_append] at own10
              obtain ⟨a10, c10, rfl, -⟩ := own10.form
              have hat10 : AlsAt w10 (some ⟨g, o2, none⟩) A0 := hat4.below q10 (Nat.le_refl _)
              obtain ⟨A10, HA10⟩ : ∃ l, Hid (A0.take m ++ [r0] = l) := ⟨_, Lib.hid rfl⟩
              obtain ⟨D10, HD10⟩ : ∃ l, Hid (A0.drop m = l) := ⟨_, Lib.hid rfl⟩
              rw [HA10.out] at own10 ⊢
              have HN10 : Hid (A10.length = m + 1) := Lib.hid (by rw [← HA10.out, List.length_append, ← HTK.out]; rfl)
              generalize hN10 : A10.length = n10 at *
              have HNq := Lib.hid hN10
              have hn10 : n10 ≤ m + 1 ∧ m + 1 ≤ n10 := by have := HN10.out; omega
              clear hN10
              have HLN : Hid (k - m = D10.length) := Lib.hid (by rw [← HD10.out, List.length_drop, HAl.out])
              have hle10 : A10.length + D10.length ≤ 1000000 := by have := HLN.out; have := HNq.out; omega
              have hsz10 : w4.heap.size ≤ w10.heap.size := q10.size
              have HB10 := Lib.hid (HB24.out.trans (q10.mono hw4s))
              have HFin : Hid (∀ v12 w12, OwnA w12 w4.heap.size v12 (A10 ++ D10) → w10.grownBy w12 (Value.slice a10 n10 c10).ownBlock → ∃ a12 c12, v12 = .slice a12 (k + 1) c12 ∧ OwnA w12 w.heap.size (.slice a12 (k + 1) c12) (sortR (L.take (k + 1))) ∧ Below w.heap.size w w12) := Lib.hid fun v12 w12 own12 g12 => by
                obtain ⟨a12, c12, e12, -⟩ := own12.form
                have hlen : (A10 ++ D10).length = k + 1 := by rw [List.length_append]; have := HLN.out; have := HNq.out; omega
                rw [hlen] at e12
                refine ⟨a12, c12, e12, ?_, HB10.out.grown g12 (Nat.le_trans hw4s hsz10) (fun j e => Nat.le_trans hw4s (World.ownsRow.lt own10 j e).1)⟩
                rw [HST.out, HIN.out, HA10.out, HD10.out, ← e12]
                exact baseA own12 hw4s
              have hkn : (m : Int) ≤ (k : Int) := by omega
              have hkc : (m : Int) ≤ (cO : Int) := by omega
              clear hS hCd hC hpr4 hat4 hpw4 hown4 HTK HN10 q10 HB24 HIN HC3 HPr
              go_simp
              by_cases hce : cO = m
              · have hnil0 : AlsAt w10 (some ⟨g, o2, none⟩) D10 := by
                  have : D10 = [] := by rw [← HD10.out]; exact List.drop_eq_nil_of_le (by omega)
                  subst this
                  exact fun h => by simp at h
                have HL0 : Hid (0 = D10.length) := Lib.hid (by rw [← HLN.out]; omega)
                have HCE := Lib.hid hce
                replace hce := hce.symm
                subst hce
                go_wp2_with (at_builtin; refine wpList_append_als _ rfl _ _ rfl w4.heap.size _ _ rfl own10 (some ⟨g, o2, none⟩) _ _ D10 rfl (by have := HL0.out; omega) hnil0 (by simp) hle10 hsz10 ?_; refine Hid.out ?_)
                refine Lib.hid ?_
                intro v12 w12 own12 g12
                obtain ⟨a12, c12, rfl, own13, hb13⟩ := HFin.out v12 w12 own12 g12
                have HO13 := Lib.hid own13
                have HB13 := Lib.hid hb13
                clear own12 g12 own10 HFin own13 hb13 hat10 hnil0
                go_wp2
                go_roundw
                case rel => exact ⟨k + 1, a12, c12, by omega, rfl, by go_num, HO13, HB13⟩
                case measure => simp [intOf]; omega
              · have hcl : m < cO := by omega
                have hdr := AlsAt.drop hat10 m
                rw [HD10.out] at hdr
                have hce' : ¬ (cO : Int) = (m : Int) := by omega
                go_wp2_with (at_builtin; refine wpList_append_als _ rfl _ _ rfl w4.heap.size _ _ rfl own10 (some ⟨g, o2 + m * 3, none⟩) _ _ D10 rfl HLN.out hdr (fun e => by cases e) hle10 hsz10 ?_; refine Hid.out ?_)
                refine Lib.hid ?_
                intro v12 w12 own12 g12
                obtain ⟨a12, c12, rfl, own13, hb13⟩ := HFin.out v12 w12 own12 g12
                have HO13 := Lib.hid own13
                have HB13 := Lib.hid hb13
                clear own12 g12 own10 HFin own13 hb13 hat10 hdr
                go_wp2
                go_roundw
                case rel => exact ⟨k + 1, a12, c12, by omega, rfl, by go_num, HO13, HB13⟩
                case measure => simp [intOf]; omega
          · have hl1 := less_no hle
            have hlq : (Op.bytesLess A0[m].key r0.key || A0[m].key == r0.key) = true := by
              by_cases e : A0[m].key = r0.key
              · rw [e]; simp
              · rcases key_total e with h1 | h1
                · rw [less_yes h1]; rfl
                · exact absurd h1 hle
            have HP2 : Hid (∀ j (_ : j < m + 1) (hl : j < A0.length), ¬ r0.key < A0[j].key) := Lib.hid fun j hj hl => by
              by_cases e : j = m
              · subst e; exact hle
              · exact HP.out j (by omega) hl
            clear hcc hle hatO hpw HP
            generalize A0[m].key = km at *
            generalize A0[m].ps.length = nm at *
            generalize A0[m].ad = am at *
            generalize A0[m].cp = cm at *
            go_wp2_with (go_at_call 39; refine HKm.out.mono ?_; rintro e w4 ⟨rfl, hb4⟩; refine Hid.out ?_)
            refine Lib.hid ?_
            have HB4 := Lib.hid (HB3.out.trans (hb4.mono HB3.out.size))
            clear hb4 HKm hd1 hpm HATO HO3
            go_wp2
            go_roundw
            case rel => exact ⟨m + 1, by omega, by go_num, HP2, HB4⟩
            case measure => simp [intOf]; omega
        · obtain rfl : k = m := by omega
          have hmz : ¬ (k : Int) < (k : Int) := by omega
          have HIN : Hid (insK r0 A0 = A0.take k ++ [r0] ++ A0.drop k) := Lib.hid (insK_pos r0 A0 k (by omega) HP.out fun hp => absurd hp (by omega))
          clear HP hatO hpw
          obtain ⟨w4, hw4⟩ : ∃ x, x = wr := ⟨_, rfl⟩
          have hb4 : Below wr.heap.size wr w4 := by rw [hw4]; exact Below.refl _ _
          subst hw4
          have hb24 : Below w2.heap.size w2 w4 := HB3.out.trans (hb4.mono HB3.out.size)
          have hown4 := HO2.out.onB hb24 (Nat.le_refl _)
          have hpw4 : ∀ r ∈ A0, PairsAt w4 r.ad r.ps := fun r hr => ((HRm.out r hr).2.below HB2.out (Nat.le_refl _)).below hb24 (Nat.le_refl _)
          have hat4 := hown4.at hpw4
          have hC := (HC3.out.below hb24 (Nat.le_refl _))
          have hpr4 := HPr.out.below hb24 (Nat.le_refl _)
          have HB24 := Lib.hid (HB2.out.trans (hb24.mono HB2.out.size))
          have hw4s : w.heap.size ≤ w4.heap.size := HB24.out.size
          have HTK : Hid (k = (A0.take k).length) := Lib.hid (by rw [List.length_take]; omega)
          have hCd := hC.below ((Below.refl w4.heap.size w4).drew) (Nat.le_refl _)
          have hmc : k ≤ cO := by omega
          clear hb24 hb4 HATO HO3
          go_wp2_with fail
          refine wp_region_any (by kernel_rfl) ?_
          change wpAny _ _ _ _ _ _ _ (World.drew _)
          have hS : (fun w' : World => C3 w' b (o + k * 3) r0) w4.drew := hCd
          refine wpAny_of_held (S := fun w' => C3 w' b (o + k * 3) r0) _ _ _ _ ?_
          refine wpAnyH_takeA (i := 0) (some 36) (v := ?_) rfl rfl (by as_aux_lemma => kernel_rfl) (by as_aux_lemma => kernel_rfl) (by as_aux_lemma => kernel_rfl) (fun _ _ _ h => h) (Or.inl ⟨by kernel_rfl, ?_⟩) hS ?_
          rotate_left
          · intro w hSw; obtain ⟨q0, q1, q2, q3⟩ := hSw; go_simp
            first | done | with_reducible rfl
          refine wpAnyH_takeA (i := 1) (some 37) (v := ?_) rfl rfl (by as_aux_lemma => kernel_rfl) (by as_aux_lemma => kernel_rfl) (by as_aux_lemma => kernel_rfl) (fun _ _ _ h => h) (Or.inl ⟨by kernel_rfl, ?_⟩) hS ?_
          rotate_left
          · intro w hSw; obtain ⟨q0, q1, q2, q3⟩ := hSw; go_simp
            first | done | with_reducible rfl
          refine wpAnyH_takeA (i := 2) (some 38) (v := ?_) rfl rfl (by as_aux_lemma => kernel_rfl) (by as_aux_lemma => kernel_rfl) (by as_aux_lemma => kernel_rfl) (fun _ _ _ h => h) (Or.inl ⟨by kernel_rfl, ?_⟩) hS ?_
          rotate_left
          · intro w hSw; obtain ⟨q0, q1, q2, q3⟩ := hSw; go_simp
            first | done | with_reducible rfl
          refine wpAnyH_takeA (i := 3) (some 39) (v := ?_) rfl rfl (by as_aux_lemma => kernel_rfl) (by as_aux_lemma => kernel_rfl) (by as_aux_lemma => kernel_rfl) (fun _ _ _ h => h) (Or.inl ⟨by kernel_rfl, ?_⟩) hS ?_
          rotate_left
          · intro w hSw; obtain ⟨q0, q1, q2, q3⟩ := hSw; go_simp
            first | done | with_reducible rfl
          refine wpAnyH_takeA (i := 5) (some 41) (v := ?_) rfl rfl (by as_aux_lemma => kernel_rfl) (by as_aux_lemma => kernel_rfl) (by as_aux_lemma => kernel_rfl) (fun _ _ _ h => h) (Or.inl ⟨by kernel_rfl, ?_⟩) hS ?_
          rotate_left
          · intro w hSw; obtain ⟨q0, q1, q2, q3⟩ := hSw; go_simp
            first | done | with_reducible rfl
          refine wpAnyH_takeA (i := 6) (some 42) (v := ?_) rfl rfl (by as_aux_lemma => kernel_rfl) (by as_aux_lemma => kernel_rfl) (by as_aux_lemma => kernel_rfl) (fun _ _ _ h => h) (Or.inl ⟨by kernel_rfl, ?_⟩) hS ?_
          rotate_left
          · intro w hSw; obtain ⟨q0, q1, q2, q3⟩ := hSw; go_simp
            first | done | with_reducible rfl
          refine wpAnyH_takeA (i := 7) (some 43) (v := ?_) rfl rfl (by as_aux_lemma => kernel_rfl) (by as_aux_lemma => kernel_rfl) (by as_aux_lemma => kernel_rfl) (fun _ _ _ h => h) (Or.inl ⟨by kernel_rfl, ?_⟩) hS ?_
          rotate_left
          · intro w hSw; obtain ⟨q0, q1, q2, q3⟩ := hSw; go_simp
            first | done | with_reducible rfl
          refine wpAnyH_takeA (i := 8) (some 44) (v := ?_) rfl rfl (by as_aux_lemma => kernel_rfl) (by as_aux_lemma => kernel_rfl) (by as_aux_lemma => kernel_rfl) (fun _ _ _ h => h) (Or.inl ⟨by kernel_rfl, ?_⟩) hS ?_
          rotate_left
          · intro w hSw; obtain ⟨q0, q1, q2, q3⟩ := hSw; go_simp
            first | done | with_reducible rfl
          refine wpAnyH_ready (rs := [4, 9]) (by as_aux_lemma => kernel_rfl) (by simp) ?_
          refine AllReadyH.cons rfl (fun K hK => ?_) (AllReadyH.cons rfl (fun K hK => ?_) AllReadyH.nil)
          · have own0 : OwnA w4.drew w4.heap.size (.slice none 0 0) [] := World.ownsRow_nil _ _ _ _
            have hat0 : AlsAt w4.drew aO (A0.take k) := hat4.take k
            have hle0 : ([] : List Rw).length + (A0.take k).length ≤ 1000000 := by rw [← HTK.out]; simp; omega
            have hsz0 : w4.heap.size ≤ w4.drew.heap.size := Nat.le_refl _
            refine step_append_als (w := w4.drew) rfl _ _ rfl w4.heap.size (.slice none 0 0) [] (by kernel_rfl) own0 aO k cO (A0.take k) (by kernel_rfl) HTK.out hat0 hcap.2 hle0 hsz0 ?_
            intro v8 w8 own8a g8
            have q8 : Below w4.heap.size w4 w8 := (Below.refl w4.heap.size w4).drew.grown g8 (Nat.le_refl _) (fun j e => by cases e)
            refine hK.out _ _ (hC.below q8 (Nat.le_refl _)) (fun hS => ?_)
            clear hK K
            refine wpAnyH_ready (rs := [9]) (by as_aux_lemma => kernel_rfl) (by simp) ?_
            refine AllReadyH.cons rfl (fun K hK => ?_) AllReadyH.nil
            go_simp
            have d9 := (Below.refl w8.heap.size w8).alloc (Nat.le_refl _) (.cells #[.slice r0.ad r0.ps.length r0.cp, .int .i64 r0.st, .int .i64 r0.en] 34)
            refine hK.out _ _ (hS.below d9 (Nat.le_refl _)) (fun hS => ?_)
            clear hK K
            have own9 := OwnA.onB own8a d9 (Nat.le_refl _)
            have hx9 : AlsAt (w8.alloc (.cells #[.slice r0.ad r0.ps.length r0.cp, .int .i64 r0.st, .int .i64 r0.en] 34)) (some ⟨w8.heap.size, 0, none⟩) [r0] := alsAt_one w8 r0 ((hpr4.below q8 (Nat.le_refl _)).below d9 (Nat.le_refl _))
            refine wpAnyH_ready (rs := [10]) (by as_aux_lemma => kernel_rfl) (by simp) ?_
            refine AllReadyH.cons rfl (fun K hK => ?_) AllReadyH.nil
            refine step_append_als rfl _ _ rfl w4.heap.size v8 ([] ++ A0.take k) (by kernel_rfl) own9 (some ⟨w8.heap.size, 0, none⟩) 1 1 [r0] (by kernel_rfl) rfl hx9 (fun e => by cases e) (by have := HTK.out; simp at this ⊢; omega) (Nat.le_trans q8.size d9.size) ?_
            intro v10 w10 own10 g10
            have q10 : Below w4.heap.size w4 w10 := (q8.trans (d9.mono q8.size)).grown g10 (Nat.le_trans q8.size d9.size) (fun j e => (World.ownsRow.lt own9 j e).1)
            refine hK.out _ _ (hC.below q10 (Nat.le_refl _)) (fun hS => ?_)
            clear hK K d9 own9 hx9 g10 own8a g8 q8
            refine wpAnyH_takeA (i := 11) (some 7) (v := ?_) rfl rfl (by as_aux_lemma => kernel_rfl) (by as_aux_lemma => kernel_rfl) (by as_aux_lemma => kernel_rfl) (fun _ _ _ h => h) (Or.inl ⟨by kernel_rfl, ?_⟩) hS ?_
            rotate_left
            · intro w hSw; obtain ⟨q0, q1, q2, q3⟩ := hSw; go_simp
              first | done | with_reducible rfl
            refine wpAnyH_done (by kernel_rfl) ?_ _
            rw [List.nil_append] at own10
            obtain ⟨a10, c10, rfl, -⟩ := own10.form
            have hat10 : AlsAt w10 aO A0 := hat4.below q10 (Nat.le_refl _)
            obtain ⟨A10, HA10⟩ : ∃ l, Hid (A0.take k ++ [r0] = l) := ⟨_, Lib.hid rfl⟩
            obtain ⟨D10, HD10⟩ : ∃ l, Hid (A0.drop k = l) := ⟨_, Lib.hid rfl⟩
            rw [HA10.out] at own10 ⊢
            have HN10 : Hid (A10.length = k + 1) := Lib.hid (by rw [← HA10.out, List.length_append, ← HTK.out]; rfl)
            generalize hN10 : A10.length = n10 at *
            have HNq := Lib.hid hN10
            have hn10 : n10 ≤ k + 1 ∧ k + 1 ≤ n10 := by have := HN10.out; omega
            clear hN10
            have HLN : Hid (k - k = D10.length) := Lib.hid (by rw [← HD10.out, List.length_drop, HAl.out])
            have hle10 : A10.length + D10.length ≤ 1000000 := by have := HLN.out; have := HNq.out; omega
            have hsz10 : w4.heap.size ≤ w10.heap.size := q10.size
            have HB10 := Lib.hid (HB24.out.trans (q10.mono hw4s))
            have HFin : Hid (∀ v12 w12, OwnA w12 w4.heap.size v12 (A10 ++ D10) → w10.grownBy w12 (Value.slice a10 n10 c10).ownBlock → ∃ a12 c12, v12 = .slice a12 (k + 1) c12 ∧ OwnA w12 w.heap.size (.slice a12 (k + 1) c12) (sortR (L.take (k + 1))) ∧ Below w.heap.size w w12) := Lib.hid fun v12 w12 own12 g12 => by
              obtain ⟨a12, c12, e12, -⟩ := own12.form
              have hlen : (A10 ++ D10).length = k + 1 := by rw [List.length_append]; have := HLN.out; have := HNq.out; omega
              rw [hlen] at e12
              refine ⟨a12, c12, e12, ?_, HB10.out.grown g12 (Nat.le_trans hw4s hsz10) (fun j e => Nat.le_trans hw4s (World.ownsRow.lt own10 j e).1)⟩
              rw [HST.out, HIN.out, HA10.out, HD10.out, ← e12]
              exact baseA own12 hw4s
            have hkn : (k : Int) ≤ (k : Int) := by omega
            have hkc : (k : Int) ≤ (cO : Int) := by omega
            clear hS hCd hC hpr4 hat4 hpw4 hown4 HTK HN10 q10 HB24 HIN HC3 HPr
            go_simp
            by_cases hce : cO = k
            · have hnil0 : AlsAt w10 aO D10 := by
                have : D10 = [] := by rw [← HD10.out]; exact List.drop_eq_nil_of_le (by omega)
                subst this
                exact fun h => by simp at h
              have HL0 : Hid (0 = D10.length) := Lib.hid (by rw [← HLN.out]; omega)
              have HCE := Lib.hid hce
              replace hce := hce.symm
              subst hce
              go_wp2_with (at_builtin; refine wpList_append_als _ rfl _ _ rfl w4.heap.size _ _ rfl own10 aO _ _ D10 rfl (by have := HL0.out; omega) hnil0 (by simp) hle10 hsz10 ?_; refine Hid.out ?_)
              refine Lib.hid ?_
              intro v12 w12 own12 g12
              obtain ⟨a12, c12, rfl, own13, hb13⟩ := HFin.out v12 w12 own12 g12
              have HO13 := Lib.hid own13
              have HB13 := Lib.hid hb13
              clear own12 g12 own10 HFin own13 hb13 hat10 hnil0
              go_wp2
              go_roundw
              case rel => exact ⟨k + 1, a12, c12, by omega, rfl, by go_num, HO13, HB13⟩
              case measure => simp [intOf]; omega
            · have hcl : k < cO := by omega
              have hD : D10 = [] := by rw [← HD10.out]; exact List.drop_eq_nil_of_le (by omega)
              have hce' : ¬ (cO : Int) = (k : Int) := by omega
              have hle11 : A10.length + ([] : List Rw).length ≤ 1000000 := by simp at hle10 ⊢; omega
              cases aO with
              | none => exact absurd (hcap.2 rfl) (by omega)
              | some q =>
                go_wp2_with (at_builtin; refine wpList_append_als _ rfl _ _ rfl w4.heap.size _ _ rfl own10 _ _ _ [] rfl (by simp) (fun h => absurd h (by simp)) (by intro e; simp at e) hle11 hsz10 ?_; refine Hid.out ?_)
                refine Lib.hid ?_
                intro v12 w12 own12 g12
                obtain ⟨a12, c12, rfl, own13, hb13⟩ := HFin.out v12 w12 (by rw [hD]; simpa using own12) g12
                have HO13 := Lib.hid own13
                have HB13 := Lib.hid hb13
                clear own12 g12 own10 HFin own13 hb13 hat10
                go_wp2
                go_roundw
                case rel => exact ⟨k + 1, a12, c12, by omega, rfl, by go_num, HO13, HB13⟩
                case measure => simp [intOf]; omega
          · go_simp
            have d8 := (Below.refl w4.heap.size w4).alloc (Nat.le_refl _) (.cells #[.slice r0.ad r0.ps.length r0.cp, .int .i64 r0.st, .int .i64 r0.en] 34)
            have d8' : Below w4.heap.size w4 (w4.alloc (.cells #[.slice r0.ad r0.ps.length r0.cp, .int .i64 r0.st, .int .i64 r0.en] 34)).drew := d8.drew
            refine hK.out _ _ (hC.below d8' (Nat.le_refl _)) (fun hS => ?_)
            clear hK K
            have own0 : OwnA (w4.alloc (.cells #[.slice r0.ad r0.ps.length r0.cp, .int .i64 r0.st, .int .i64 r0.en] 34)).drew w4.heap.size (.slice none 0 0) [] := World.ownsRow_nil _ _ _ _
            have hat0 : AlsAt (w4.alloc (.cells #[.slice r0.ad r0.ps.length r0.cp, .int .i64 r0.st, .int .i64 r0.en] 34)).drew aO (A0.take k) := (hat4.below d8 (Nat.le_refl _)).take k
            have hle0 : ([] : List Rw).length + (A0.take k).length ≤ 1000000 := by rw [← HTK.out]; simp; omega
            have hsz0 : w4.heap.size ≤ (w4.alloc (.cells #[.slice r0.ad r0.ps.length r0.cp, .int .i64 r0.st, .int .i64 r0.en] 34)).drew.heap.size := d8.size
            refine wpAnyH_ready (rs := [4]) (by as_aux_lemma => kernel_rfl) (by simp) ?_
            refine AllReadyH.cons rfl (fun K hK => ?_) AllReadyH.nil
            refine step_append_als (w := (w4.alloc (.cells #[.slice r0.ad r0.ps.length r0.cp, .int .i64 r0.st, .int .i64 r0.en] 34)).drew) rfl _ _ rfl w4.heap.size (.slice none 0 0) [] (by kernel_rfl) own0 aO k cO (A0.take k) (by kernel_rfl) HTK.out hat0 hcap.2 hle0 hsz0 ?_
            intro v8 w8 own8a g8
            have q8' : Below (w4.alloc (.cells #[.slice r0.ad r0.ps.length r0.cp, .int .i64 r0.st, .int .i64 r0.en] 34)).heap.size (w4.alloc (.cells #[.slice r0.ad r0.ps.length r0.cp, .int .i64 r0.st, .int .i64 r0.en] 34)) w8 := (Below.refl _ _).drew.grown g8 (Nat.le_refl _) (fun j e => by cases e)
            have q8 : Below w4.heap.size w4 w8 := d8.trans (q8'.mono d8.size)
            refine hK.out _ _ (hC.below q8 (Nat.le_refl _)) (fun hS => ?_)
            clear hK K
            have hx9 : AlsAt w8 (some ⟨w4.heap.size, 0, none⟩) [r0] := (alsAt_one w4 r0 (hpr4.below d8 (Nat.le_refl _))).below q8' (Nat.le_refl _)
            refine wpAnyH_ready (rs := [10]) (by as_aux_lemma => kernel_rfl) (by simp) ?_
            refine AllReadyH.cons rfl (fun K hK => ?_) AllReadyH.nil
            refine step_append_als rfl _ _ rfl w4.heap.size v8 ([] ++ A0.take k) (by kernel_rfl) own8a (some ⟨w4.heap.size, 0, none⟩) 1 1 [r0] (by kernel_rfl) rfl hx9 (fun e => by cases e) (by have := HTK.out; simp at this ⊢; omega) q8.size ?_
            intro v10 w10 own10 g10
            have q10 : Below w4.heap.size w4 w10 := q8.grown g10 q8.size (fun j e => (World.ownsRow.lt own8a j e).1)
            refine hK.out _ _ (hC.below q10 (Nat.le_refl _)) (fun hS => ?_)
            clear hK K d8 d8' q8' hx9 g10 own8a g8 q8 own0 hat0 hle0 hsz0
            refine wpAnyH_takeA (i := 11) (some 7) (v := ?_) rfl rfl (by as_aux_lemma => kernel_rfl) (by as_aux_lemma => kernel_rfl) (by as_aux_lemma => kernel_rfl) (fun _ _ _ h => h) (Or.inl ⟨by kernel_rfl, ?_⟩) hS ?_
            rotate_left
            · intro w hSw; obtain ⟨q0, q1, q2, q3⟩ := hSw; go_simp
              first | done | with_reducible rfl
            refine wpAnyH_done (by kernel_rfl) ?_ _
            rw [List.nil_append] at own10
            obtain ⟨a10, c10, rfl, -⟩ := own10.form
            have hat10 : AlsAt w10 aO A0 := hat4.below q10 (Nat.le_refl _)
            obtain ⟨A10, HA10⟩ : ∃ l, Hid (A0.take k ++ [r0] = l) := ⟨_, Lib.hid rfl⟩
            obtain ⟨D10, HD10⟩ : ∃ l, Hid (A0.drop k = l) := ⟨_, Lib.hid rfl⟩
            rw [HA10.out] at own10 ⊢
            have HN10 : Hid (A10.length = k + 1) := Lib.hid (by rw [← HA10.out, List.length_append, ← HTK.out]; rfl)
            generalize hN10 : A10.length = n10 at *
            have HNq := Lib.hid hN10
            have hn10 : n10 ≤ k + 1 ∧ k + 1 ≤ n10 := by have := HN10.out; omega
            clear hN10
            have HLN : Hid (k - k = D10.length) := Lib.hid (by rw [← HD10.out, List.length_drop, HAl.out])
            have hle10 : A10.length + D10.length ≤ 1000000 := by have := HLN.out; have := HNq.out; omega
            have hsz10 : w4.heap.size ≤ w10.heap.size := q10.size
            have HB10 := Lib.hid (HB24.out.trans (q10.mono hw4s))
            have HFin : Hid (∀ v12 w12, OwnA w12 w4.heap.size v12 (A10 ++ D10) → w10.grownBy w12 (Value.slice a10 n10 c10).ownBlock → ∃ a12 c12, v12 = .slice a12 (k + 1) c12 ∧ OwnA w12 w.heap.size (.slice a12 (k + 1) c12) (sortR (L.take (k + 1))) ∧ Below w.heap.size w w12) := Lib.hid fun v12 w12 own12 g12 => by
              obtain ⟨a12, c12, e12, -⟩ := own12.form
              have hlen : (A10 ++ D10).length = k + 1 := by rw [List.length_append]; have := HLN.out; have := HNq.out; omega
              rw [hlen] at e12
              refine ⟨a12, c12, e12, ?_, HB10.out.grown g12 (Nat.le_trans hw4s hsz10) (fun j e => Nat.le_trans hw4s (World.ownsRow.lt own10 j e).1)⟩
              rw [HST.out, HIN.out, HA10.out, HD10.out, ← e12]
              exact baseA own12 hw4s
            have hkn : (k : Int) ≤ (k : Int) := by omega
            have hkc : (k : Int) ≤ (cO : Int) := by omega
            clear hS hCd hC hpr4 hat4 hpw4 hown4 HTK HN10 q10 HB24 HIN HC3 HPr
            go_simp
            by_cases hce : cO = k
            · have hnil0 : AlsAt w10 aO D10 := by
                have : D10 = [] := by rw [← HD10.out]; exact List.drop_eq_nil_of_le (by omega)
                subst this
                exact fun h => by simp at h
              have HL0 : Hid (0 = D10.length) := Lib.hid (by rw [← HLN.out]; omega)
              have HCE := Lib.hid hce
              replace hce := hce.symm
              subst hce
              go_wp2_with (at_builtin; refine wpList_append_als _ rfl _ _ rfl w4.heap.size _ _ rfl own10 aO _ _ D10 rfl (by have := HL0.out; omega) hnil0 (by simp) hle10 hsz10 ?_; refine Hid.out ?_)
              refine Lib.hid ?_
              intro v12 w12 own12 g12
              obtain ⟨a12, c12, rfl, own13, hb13⟩ := HFin.out v12 w12 own12 g12
              have HO13 := Lib.hid own13
              have HB13 := Lib.hid hb13
              clear own12 g12 own10 HFin own13 hb13 hat10 hnil0
              go_wp2
              go_roundw
              case rel => exact ⟨k + 1, a12, c12, by omega, rfl, by go_num, HO13, HB13⟩
              case measure => simp [intOf]; omega
            · have hcl : k < cO := by omega
              have hD : D10 = [] := by rw [← HD10.out]; exact List.drop_eq_nil_of_le (by omega)
              have hce' : ¬ (cO : Int) = (k : Int) := by omega
              have hle11 : A10.length + ([] : List Rw).length ≤ 1000000 := by simp at hle10 ⊢; omega
              cases aO with
              | none => exact absurd (hcap.2 rfl) (by omega)
              | some q =>
                go_wp2_with (at_builtin; refine wpList_append_als _ rfl _ _ rfl w4.heap.size _ _ rfl own10 _ _ _ [] rfl (by simp) (fun h => absurd h (by simp)) (by intro e; simp at e) hle11 hsz10 ?_; refine Hid.out ?_)
                refine Lib.hid ?_
                intro v12 w12 own12 g12
                obtain ⟨a12, c12, rfl, own13, hb13⟩ := HFin.out v12 w12 (by rw [hD]; simpa using own12) g12
                have HO13 := Lib.hid own13
                have HB13 := Lib.hid hb13
                clear own12 g12 own10 HFin own13 hb13 hat10
                go_wp2
                go_roundw
                case rel => exact ⟨k + 1, a12, c12, by omega, rfl, by go_num, HO13, HB13⟩
                case measure => simp [intOf]; omega
    · obtain rfl : k = n := by omega
      have hkl : ¬ (k : Int) < (k : Int) := by omega
      have hR := HO.out
      rw [List.take_of_length_le (by omega)] at hR
      have HF := Lib.hid (And.intro (hR.at fun r hr => (HPs.out r ((sortR_perm L).mem_iff.1 hr)).below HB.out (Nat.le_refl _)) HB.out)
      clear hR HO
      go_wp2
      go_ret
      exact ⟨aO, cO, rfl, HF.out.1, HF.out.2⟩

end Go.Proofs.YtdnpfmmkglgnjaaDoor
