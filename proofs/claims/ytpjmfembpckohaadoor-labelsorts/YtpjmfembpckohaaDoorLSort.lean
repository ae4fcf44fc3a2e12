/-
  What the reference's Sort does: an error, or the pairs by rising names.
-/
import Derived.Test.YtpjmfembpckohaaDoorLSort0
import Derived.Test.YtpjmfembpckohaaDoorLRef1
import Derived.Test.YtpjmfembpckohaaDoorLRead
import Derived.Deep.RegionHeld3
namespace Go.Proofs.YtpjmfembpckohaaDoor
open Go.RowKit

theorem pairsAt_new (w : World) (x : Pr) : PairsAt (w.alloc (.cells #[.string x.1, .string x.2] 35)) (some ⟨w.heap.size, 0, none⟩) [x] := fun _ => ⟨_, 0, rfl, fun i hi => by
  match i, hi with
  | 0, _ => exact ⟨by rw [World.cell?_alloc_mark]; rfl, by rw [World.cell?_alloc_mark]; rfl⟩⟩
theorem PairsAt.grown {w w' : World} {a : Option Addr} {ps : List Pr} {r : Option Nat} (h : PairsAt w a ps) (hg : w.grownBy w' r) (hr : ∀ q, a = some q → some q.block ≠ r) : PairsAt w' a ps := fun hn => by
  obtain ⟨b, o, rfl, hc⟩ := h hn
  refine ⟨b, o, rfl, fun i hi => ?_⟩
  obtain ⟨h1, h2⟩ := hc i hi
  have hne := hr _ rfl
  exact ⟨hg.cell h1 hne, hg.cell h2 hne⟩
theorem keep_grown2 {w w' : World} {b x y : Nat} {r : Option Nat} {v1 v2 : Value} (hg : w.grownBy w' r) (hx : b < w.heap.size) (h : w.cell? ⟨b, x, none⟩ = some v1 ∧ w.cell? ⟨b, y, none⟩ = some v2) (hne : some b ≠ r) : w'.cell? ⟨b, x, none⟩ = some v1 ∧ w'.cell? ⟨b, y, none⟩ = some v2 :=
  ⟨by rw [hg.cell_far ⟨b, x, none⟩ hx hne]; exact h.1, by rw [hg.cell_far ⟨b, y, none⟩ hx hne]; exact h.2⟩

theorem not_once {ps qs : List Pr} {k : Nat} (hk : k < ps.length) (hp : qs.Perm (ps.take k)) {j : Nat} (hj : j < qs.length) (he : nm qs[j] = nm ps[k]) : ¬ Once ps := fun ho => by
  have h1 : ps = ps.take k ++ ps[k] :: ps.drop (k + 1) := by rw [← List.drop_eq_getElem_cons hk, List.take_append_drop]
  have hm : qs[j] ∈ ps.take k := hp.mem_iff.1 (List.getElem_mem hj)
  unfold Once at ho
  rw [h1, List.map_append, List.nodup_append] at ho
  exact ho.2.2 (nm qs[j]) (List.mem_map_of_mem hm) (nm ps[k]) (List.mem_map_of_mem (List.mem_cons_self ..)) he

/-- What the reference's Sort answers. -/
def SortAns (w' : World) (ps : List Pr) (e : Ending) : Prop :=
  ∃ a' c' qs, e = .returned (.tuple #[.slice a' (List.length qs) c', .int .i64 (sortE ps)]) ∧ PairsAt w' a' qs ∧ (sortE ps ≠ 0 → qs = []) ∧ (sortE ps = 0 → qs.Perm ps ∧ Rise qs)

set_option maxHeartbeats 8000000 in
set_option maxRecDepth 100000 in
theorem refSort_any (a : Option Addr) (c : Nat) (ps : List Pr) (w : World) (h : PairsAt w a ps) (hn : ∀ p ∈ ps, p.1.size ≤ 9223372036854775807) :
    Calls Tryd.prog 14 #[.slice a ps.length c] w fun e w' => SortAns w' ps e ∧ Below w.heap.size w w' := by
  have HC := Lib.hid (refparts_any a c ps w h hn)
  by_cases h0 : partsE ps = 0
  · have hl8 := partsE_zero h0
    have HE : Hid (sortE ps = if Once ps then 0 else 7) := by unfold sortE; rw [h0, if_neg (by simp)]; exact rfl
    rw [h0] at HC
    clear h0 hn
    go_enter Tryd.func14, Tryd.ntmps14
    go_wp2_with (go_at_call 27; refine HC.out.mono ?_; rintro e w1 ⟨rfl, rfl⟩)
    go_loopw [5, 6] (fun v i wr => ∃ (k : Nat) (a5 : Option Addr) (c5 : Nat) (qs : List Pr), k ≤ ps.length ∧ i = .int .i64 k ∧ v = .slice a5 qs.length c5 ∧ OwnP wr w1.heap.size (.slice a5 qs.length c5) qs ∧ qs.Perm (ps.take k) ∧ Rise qs ∧ Below w1.heap.size w1 wr) (fun _ i _ => ps.length - (intOf i).toNat)
    case atStart => exact ⟨0, none, 0, [], Nat.zero_le _, rfl, rfl, World.ownsRow_nil _ _ _ _, List.Perm.refl _, List.Pairwise.nil, Below.refl _ _⟩
    case round =>
      obtain ⟨k, a5, c5, qs, hk, rfl, rfl, hown, hperm, hrise, hnx⟩ := hrel
      obtain ⟨w0, rfl⟩ : ∃ x, x = wr := ⟨_, rfl⟩
      have hsr := hnx.size
      have hql : qs.length ≤ 8 := by have := hperm.length_eq; simp at this; omega
      obtain ⟨_, _, hq5, hat, hcn, -⟩ := hown.form
      injection hq5 with q1 q2 q3
      subst q1 q3
      have hcap := hown.cap
      have hnone : ∀ j, (if c5 = j then a5 else a5.map (·.add (j * 2))) = none → c5 - j = 0 := fun j hx => by
        split at hx
        · omega
        · have := hcn (by simpa using hx)
          omega
      clear q2
      by_cases hlt : k < ps.length
      · have hkl : (k : Int) < (ps.length : Int) := by omega
        obtain ⟨b, o, rfl, hc⟩ := h (by omega)
        obtain ⟨hc1, hc2⟩ := hc k hlt
        have hbl := World.block_lt_of_cell? w1 _ hc1
        rw [← hnx.cell (p := ⟨b, o + k * 2, none⟩) (World.block_lt_of_cell? w1 _ hc1)] at hc1
        rw [← hnx.cell (p := ⟨b, o + k * 2 + 1, none⟩) (World.block_lt_of_cell? w1 _ hc2)] at hc2
        have HNO := Lib.hid (fun j (hj : j < qs.length) he => not_once hlt hperm (j := j) hj he)
        have HPM := Lib.hid (fun j => perm_insert (p := ps[k]) (k := j) hperm)
        have HRI := Lib.hid (fun j => rise_insert (p := ps[k]) (k := j) hrise)
        have HTK := Lib.hid (List.take_succ_eq_append_getElem hlt)
        clear hc hperm hrise
        generalize ps[k] = pk at *
        obtain ⟨s1, s2⟩ := pk
        go_wp2
        go_loopw [7] (fun i wi => ∃ j : Nat, j ≤ qs.length ∧ i = .int .i64 j ∧ (∀ t, t < j → ∀ ht : t < qs.length, nm qs[t] < s1.toList) ∧ Below w0.heap.size w0 wi) (fun i _ => qs.length - (intOf i).toNat)
        case atStart => exact ⟨0, Nat.zero_le _, rfl, fun t ht => absurd ht (Nat.not_lt_zero _), Below.refl _ _⟩
        case round =>
          obtain ⟨j, hj, rfl, hall, hbi⟩ := hrel
          have hsi := hbi.size
          rw [← hbi.cell (p := ⟨b, o + k * 2, none⟩) (World.block_lt_of_cell? w0 _ hc1)] at hc1
          rw [← hbi.cell (p := ⟨b, o + k * 2 + 1, none⟩) (World.block_lt_of_cell? w0 _ hc2)] at hc2
          have hati := hat.below hbi (Nat.le_refl _)
          by_cases hjl : j < qs.length
          · have hjl' : (j : Int) < (qs.length : Int) := by omega
            obtain ⟨b5, o5, rfl, hd⟩ := hati (by omega)
            obtain ⟨hd1, -⟩ := hd j hjl
            have hL := less_eq qs[j].1.toList s1.toList
            by_cases hR : nm qs[j] < s1.toList
            · rw [decide_eq_true hR] at hL
              have HA := Lib.hid (upto_succ hall fun _ => hR)
              clear hall hd
              go_wp2
              go_quiet (fail)
              go_wp2
              go_roundw
              case rel => exact ⟨j + 1, by omega, by go_num, HA.out, below_drewN hbi _⟩
              case measure => simp [intOf]; omega
            · rw [decide_eq_false hR] at hL
              by_cases hEq : nm qs[j] = s1.toList
              · have hE' : (qs[j].1.toList == s1.toList) = true := beq_iff_eq.2 hEq
                have HNo := Lib.hid (HNO.out j hjl hEq)
                clear hall hd hEq
                go_wp2
                go_quiet (fail)
                go_wp2
                go_quiet (fail)
                go_wp2
                go_ret2
                rw [if_neg HNo.out] at HE
                refine ⟨⟨none, 0, [], by rw [HE.out]; rfl, (fun h => absurd h (by simp)), fun _ => rfl, fun h => ?_⟩, ?_⟩
                · rw [HE.out] at h
                  exact absurd h (by decide)
                · exact below_drewN (below_drewN (hnx.trans (hbi.mono hsr)) _) _
              · have hE' : (qs[j].1.toList == s1.toList) = false := beq_eq_false_iff_ne.2 hEq
                have HHI : Hid (∀ hj : j < qs.length, s1.toList < nm qs[j]) := Lib.hid fun _ => by
                  by_cases hx : s1.toList < nm qs[j]
                  · exact hx
                  · exact absurd (nm_tri hR hx) hEq
                have HA := Lib.hid hall
                clear hall hd hEq
                go_wp2
                go_quiet (fail)
                go_wp2
                go_quiet (fail)
                go_wp2
                have hsl : ∀ W, (Instr.slice 22 (.slice (some ⟨b5, o5, none⟩) qs.length c5) none (some (.int .i64 (j : Int))) none).run Tryd.prog W = .ok (.slice (some ⟨b5, o5, none⟩) j c5) W := fun W => slice_toP _ _ _ _ W (by omega)
                obtain ⟨A6, hA6⟩ : ∃ x, x = (if c5 = j then (some ⟨b5, o5, none⟩) else ((some ⟨b5, o5, none⟩) : Option Addr).map (·.add (j * 2))) := ⟨_, rfl⟩
                have hsf : ∀ W, (Instr.slice 22 (.slice (some ⟨b5, o5, none⟩) qs.length c5) (some (.int .i64 (j : Int))) none none).run Tryd.prog W = .ok (.slice A6 (qs.length - j) (c5 - j)) W := fun W => by rw [hA6]; exact slice_fromP _ _ _ _ W hj
                have hdr := hati.drop j c5 hcap
                have hno := hnone j
                rw [← hA6] at hdr hno
                clear hA6
                have hbw : b < wr.heap.size := by omega
                have hnew : ∀ W : World, W.heap.size = wr.heap.size → PairsAt (W.alloc (.cells #[.string s1, .string s2] 35)) (some ⟨wr.heap.size, 0, none⟩) [(s1, s2)] := fun W hW => by rw [← hW]; exact pairsAt_new W (s1, s2)
                go_region_held3 (fun w' => w'.cell? ⟨b, o + k * 2, none⟩ = some (.string s1) ∧ w'.cell? ⟨b, o + k * 2 + 1, none⟩ = some (.string s2)) (first | go_keep | (exact keep_grown2 hg1 (by simp; omega) (by assumption) (fun h => absurd (show some _ = none from h) (by simp))) | (exact keep_grown2 hg2 (by have := hg1.size; simp at this ⊢; omega) (by assumption) (fun e => by have := (World.ownsRow.lt ho1 _ e.symm).1; omega)))
                  (first
                    | (refine step_append_pairs (by rfl) _ _ (by rfl) wr.heap.size (.slice none 0 0) [] (by rfl) (World.ownsRow_nil _ _ _ _) _ _ _ (qs.take j) (by rfl) (by simp; omega) (by exact (hati.below (B := wr.heap.size) (by repeat (first | exact Below.refl _ _ | refine below_drewN ?_ _ | refine Below.drew ?_ | refine Below.alloc ?_ (by simp) _)) (Nat.le_refl _)).take j) hcn (by simp; omega) (by simp) ?_; intro a1 k1 c1 w2 ho1 hg1)
                    | (refine step_append_pairs (by rfl) _ _ (by rfl) wr.heap.size (.slice a1 k1 c1) ([] ++ qs.take j) (by rfl) (by first | exact ho1 | exact World.ownsRow.alloc ho1 _) _ _ _ [(s1, s2)] (by rfl) (by rfl) (by first | exact pairsAt_new _ (s1, s2) | exact (hnew _ (by rfl)).grown hg1 (fun _ _ h => absurd (show some _ = none from h) (by simp))) (fun h => by cases h) (by simp; omega) (by have := hg1.size; simp at this ⊢; omega) ?_; intro a2 k2 c2 w3 ho2 hg2))
                all_goals
                  have hb2 : Below wr.heap.size wr w2 := Below.grown (by repeat (first | exact Below.refl _ _ | refine below_drewN ?_ _ | refine Below.drew ?_ | refine Below.alloc ?_ (by simp) _)) hg1 (by simp) (fun k hk => by simp [Value.ownBlock] at hk)
                  have hs2 := hb2.size
                  have hb3 : Below wr.heap.size wr w3 := by
                    first
                      | exact hb2.grown hg2 hs2 (fun k hk => (World.ownsRow.lt ho1 k hk).1)
                      | exact (hb2.alloc hs2 _).grown hg2 (by simp; omega) (fun k hk => (World.ownsRow.lt ho1 k hk).1)
                  have hs3 := hb3.size
                  clear hg1 hg2
                  go_wp2_with (at_builtin; refine wpList_append_pairs _ rfl _ _ rfl wr.heap.size _ _ rfl ho2 _ _ _ (qs.drop j) rfl (by simp) (hdr.below hb3 (Nat.le_refl _)) hno (by simp; omega) hs3 ?_; refine Hid.out ?_)
                  refine Lib.hid ?_
                  intro v4 w4 ho4 hg4
                  have hb4 : Below wr.heap.size wr w4 := hb3.grown hg4 hs3 (fun k hk => (World.ownsRow.lt ho2 k hk).1)
                  have ho4' : OwnP w4 wr.heap.size v4 (qs.take j ++ [(s1, s2)] ++ qs.drop j) := by simpa using ho4
                  have ho5 : OwnP w4 w1.heap.size v4 (qs.take j ++ [(s1, s2)] ++ qs.drop j) := ho4'.le (by omega)
                  obtain ⟨a6, c6, rfl, -, -, -⟩ := ho5.form
                  have hn4 := (hnx.trans (hbi.mono hsr)).trans (hb4.mono (by omega))
                  clear ho4 ho4' hg4 ho1 ho2 hsl hsf
                  go_wp2
                  go_roundw
                  case rel => exact ⟨k + 1, a6, c6, _, by omega, by go_num, rfl, ho5, by rw [HTK.out]; exact HPM.out j, HRI.out j hj (fun t ht htj => HA.out t htj ht) HHI.out, hn4⟩
                  case measure => simp [intOf]; omega
          · have hjl' : ¬ (j : Int) < (qs.length : Int) := by omega
            have hjd : decide ((j : Int) < (qs.length : Int)) = false := decide_eq_false hjl'
            have HHI : Hid (∀ hj : j < qs.length, s1.toList < nm qs[j]) := Lib.hid fun h => absurd h hjl
            have HA := Lib.hid hall
            clear hall
            go_wp2
            go_quiet (fail)
            go_wp2
            go_quiet (fail)
            go_wp2
            have hsl : ∀ W, (Instr.slice 22 (.slice a5 qs.length c5) none (some (.int .i64 (j : Int))) none).run Tryd.prog W = .ok (.slice a5 j c5) W := fun W => slice_toP _ _ _ _ W (by omega)
            obtain ⟨A6, hA6⟩ : ∃ x, x = (if c5 = j then a5 else (a5 : Option Addr).map (·.add (j * 2))) := ⟨_, rfl⟩
            have hsf : ∀ W, (Instr.slice 22 (.slice a5 qs.length c5) (some (.int .i64 (j : Int))) none none).run Tryd.prog W = .ok (.slice A6 (qs.length - j) (c5 - j)) W := fun W => by rw [hA6]; exact slice_fromP _ _ _ _ W hj
            have hdr := hati.drop j c5 hcap
            have hno := hnone j
            rw [← hA6] at hdr hno
            clear hA6
            have hbw : b < wr.heap.size := by omega
            have hnew : ∀ W : World, W.heap.size = wr.heap.size → PairsAt (W.alloc (.cells #[.string s1, .string s2] 35)) (some ⟨wr.heap.size, 0, none⟩) [(s1, s2)] := fun W hW => by rw [← hW]; exact pairsAt_new W (s1, s2)
            go_region_held3 (fun w' => w'.cell? ⟨b, o + k * 2, none⟩ = some (.string s1) ∧ w'.cell? ⟨b, o + k * 2 + 1, none⟩ = some (.string s2)) (first | go_keep | (exact keep_grown2 hg1 (by simp; omega) (by assumption) (fun h => absurd (show some _ = none from h) (by simp))) | (exact keep_grown2 hg2 (by have := hg1.size; simp at this ⊢; omega) (by assumption) (fun e => by have := (World.ownsRow.lt ho1 _ e.symm).1; omega)))
              (first
                | (refine step_append_pairs (by rfl) _ _ (by rfl) wr.heap.size (.slice none 0 0) [] (by rfl) (World.ownsRow_nil _ _ _ _) _ _ _ (qs.take j) (by rfl) (by simp; omega) (by exact (hati.below (B := wr.heap.size) (by repeat (first | exact Below.refl _ _ | refine below_drewN ?_ _ | refine Below.drew ?_ | refine Below.alloc ?_ (by simp) _)) (Nat.le_refl _)).take j) hcn (by simp; omega) (by simp) ?_; intro a1 k1 c1 w2 ho1 hg1)
                | (refine step_append_pairs (by rfl) _ _ (by rfl) wr.heap.size (.slice a1 k1 c1) ([] ++ qs.take j) (by rfl) (by first | exact ho1 | exact World.ownsRow.alloc ho1 _) _ _ _ [(s1, s2)] (by rfl) (by rfl) (by first | exact pairsAt_new _ (s1, s2) | exact (hnew _ (by rfl)).grown hg1 (fun _ _ h => absurd (show some _ = none from h) (by simp))) (fun h => by cases h) (by simp; omega) (by have := hg1.size; simp at this ⊢; omega) ?_; intro a2 k2 c2 w3 ho2 hg2))
            all_goals
              have hb2 : Below wr.heap.size wr w2 := Below.grown (by repeat (first | exact Below.refl _ _ | refine below_drewN ?_ _ | refine Below.drew ?_ | refine Below.alloc ?_ (by simp) _)) hg1 (by simp) (fun k hk => by simp [Value.ownBlock] at hk)
              have hs2 := hb2.size
              have hb3 : Below wr.heap.size wr w3 := by
                first
                  | exact hb2.grown hg2 hs2 (fun k hk => (World.ownsRow.lt ho1 k hk).1)
                  | exact (hb2.alloc hs2 _).grown hg2 (by simp; omega) (fun k hk => (World.ownsRow.lt ho1 k hk).1)
              have hs3 := hb3.size
              clear hg1 hg2
              go_wp2_with (at_builtin; refine wpList_append_pairs _ rfl _ _ rfl wr.heap.size _ _ rfl ho2 _ _ _ (qs.drop j) rfl (by simp) (hdr.below hb3 (Nat.le_refl _)) hno (by simp; omega) hs3 ?_; refine Hid.out ?_)
              refine Lib.hid ?_
              intro v4 w4 ho4 hg4
              have hb4 : Below wr.heap.size wr w4 := hb3.grown hg4 hs3 (fun k hk => (World.ownsRow.lt ho2 k hk).1)
              have ho4' : OwnP w4 wr.heap.size v4 (qs.take j ++ [(s1, s2)] ++ qs.drop j) := by simpa using ho4
              have ho5 : OwnP w4 w1.heap.size v4 (qs.take j ++ [(s1, s2)] ++ qs.drop j) := ho4'.le (by omega)
              obtain ⟨a6, c6, rfl, -, -, -⟩ := ho5.form
              have hn4 := (hnx.trans (hbi.mono hsr)).trans (hb4.mono (by omega))
              clear ho4 ho4' hg4 ho1 ho2 hsl hsf
              go_wp2
              go_roundw
              case rel => exact ⟨k + 1, a6, c6, _, by omega, by go_num, rfl, ho5, by rw [HTK.out]; exact HPM.out j, HRI.out j hj (fun t ht htj => HA.out t htj ht) HHI.out, hn4⟩
              case measure => simp [intOf]; omega
      · obtain rfl : k = ps.length := by omega
        rw [List.take_length] at hperm
        have ho := (once_perm hperm).1 (rise_once hrise)
        rw [if_pos ho] at HE
        have HP := Lib.hid (And.intro hperm hrise)
        clear hperm hrise ho
        go_wp2
        go_ret2
        exact ⟨⟨a5, c5, qs, by rw [HE.out]; rfl, hat, fun h => absurd HE.out h, fun _ => HP.out⟩, hnx⟩
  · have HE : Hid (sortE ps = partsE ps) := by unfold sortE; rw [if_pos h0]; exact rfl
    generalize partsE ps = E at *
    have h0' : (E != 0) = true := by simpa using h0
    go_enter Tryd.func14, Tryd.ntmps14
    go_wp2_with (go_at_call 27; refine HC.out.mono ?_; rintro e w1 ⟨rfl, rfl⟩)
    go_ret2
    exact ⟨⟨none, 0, [], by rw [HE.out]; rfl, (fun h => absurd h (by simp)), fun _ => rfl, fun h => absurd (HE.out.symm.trans h) h0⟩, Below.refl _ _⟩

end Go.Proofs.YtpjmfembpckohaaDoor
