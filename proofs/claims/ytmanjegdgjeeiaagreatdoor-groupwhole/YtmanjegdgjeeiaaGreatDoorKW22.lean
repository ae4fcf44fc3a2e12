/-
  Key of the reference, walked.
-/
import Derived.Test.YtmanjegdgjeeiaaGreatDoorKW06
import Derived.Test.YtmanjegdgjeeiaaGreatDoorKW21
namespace Go.Proofs.YtmanjegdgjeeiaaGreatDoor
open Go.RowKit

theorem keep_two2 {w w' : World} {B b x y : Nat} {v1 v2 : Value} (hb : Below B w w') (hx : b < B) (h : w.cell? ⟨b, x, none⟩ = some v1 ∧ w.cell? ⟨b, y, none⟩ = some v2) : w'.cell? ⟨b, x, none⟩ = some v1 ∧ w'.cell? ⟨b, y, none⟩ = some v2 :=
  ⟨by rw [hb.cell (p := ⟨b, x, none⟩) hx]; exact h.1, by rw [hb.cell (p := ⟨b, y, none⟩) hx]; exact h.2⟩
theorem keep_far2 {w w' : World} {b x y : Nat} {r : Option Nat} {v1 v2 : Value} (hg : w.grownBy w' r) (hx : b < w.heap.size) (h : w.cell? ⟨b, x, none⟩ = some v1 ∧ w.cell? ⟨b, y, none⟩ = some v2) (hne : some b ≠ r) : w'.cell? ⟨b, x, none⟩ = some v1 ∧ w'.cell? ⟨b, y, none⟩ = some v2 :=
  ⟨by rw [hg.cell_far ⟨b, x, none⟩ hx hne]; exact h.1, by rw [hg.cell_far ⟨b, y, none⟩ hx hne]; exact h.2⟩

theorem src_lt {w : World} {q : Addr} {k c : Nat} {l : List UInt8} (h : SrcAt w (.slice (some q) k c) l) (hl : l ≠ []) : q.block < w.heap.size := by
  rcases h with ⟨e, _⟩ | ⟨q', c', e, hc⟩
  · simp at e
  · simp only [Value.slice.injEq, Option.some.injEq] at e
    obtain ⟨rfl, -, -⟩ := e
    have h0 := World.block_lt_of_cell? w _ (hc 0 (List.length_pos_iff.2 hl))
    rwa [add_block] at h0
theorem putText_ne (s : List UInt8) : putText s ≠ [] := by simp [putText]

set_option maxHeartbeats 4000000 in
set_option maxRecDepth 100000 in
theorem refKey_any (a : Option Addr) (c : Nat) (ps : List Pr) (w : World) (h : PairsAt w a ps) (hl : ps.length ≤ 1048576) (hsz : ∀ p ∈ ps, p.1.size ≤ 1048576 ∧ p.2.size ≤ 1048576) (hf : (partsK ps).flatten.length ≤ 140737488355000) (n : Nat) (hn : n = ps.length) :
    Calls Tryz.prog 68 #[.slice a n c] w fun e w' => e = .returned (.string ⟨(keyL ps).toArray⟩) ∧ Below w.heap.size w w' := by
  subst hn
  obtain ⟨i0, hi, hi0, hi1, hi2⟩ := info_parts infoBytes
  have HSZ := Lib.hid hsz
  have HF := Lib.hid hf
  clear hsz hf
  go_enter Tryz.func68, Tryz.ntmps68
  go_wp2
  go_loopw [3, 4] (fun v i wr => ∃ (k : Nat) (a7 : Option Addr) (n7 c7 : Nat) (vs : List Value), k ≤ ps.length ∧ i = .int .i64 k ∧ v = .slice a7 n7 c7 ∧ RowOf wr w.heap.size (.slice a7 n7 c7) vs (partsK (ps.take k)) ∧ Below w.heap.size w wr) (fun _ i _ => ps.length - (intOf i).toNat)
  case atStart => exact ⟨0, none, 0, 0, [], Nat.zero_le _, rfl, rfl, RowOf.nil _ _, Below.refl _ _⟩
  case round =>
    obtain ⟨k, a7, n7, c7, vs, hk, rfl, rfl, hrow, hnx⟩ := hrel
    have hs1 := hnx.size
    by_cases hlt : k < ps.length
    · have hkl : (k : Int) < (ps.length : Int) := by omega
      obtain ⟨b, o, rfl, hc⟩ := h (by omega)
      obtain ⟨hc1, hc2⟩ := hc k hlt
      have hbl : b < w.heap.size := World.block_lt_of_cell? w _ hc1
      rw [← hnx.cell (p := ⟨b, o + k * 2, none⟩) (World.block_lt_of_cell? w _ hc1)] at hc1
      rw [← hnx.cell (p := ⟨b, o + k * 2 + 1, none⟩) (World.block_lt_of_cell? w _ hc2)] at hc2
      obtain ⟨hz1, hz2⟩ := HSZ.out ps[k] (List.getElem_mem _)
      have hlen := hrow.len
      rw [partsK_len, List.length_take] at hlen
      have hlb : vs.length ≤ 2097152 := by omega
      clear hlen
      have HM := Lib.hid (partsK_take ps k hlt)
      clear hc h
      generalize ps[k].1 = s1 at *
      generalize ps[k].2 = s2 at *
      have hbne : some b ≠ (Value.slice a7 n7 c7).ownBlock := fun e => by have := (hrow.own.lt _ e.symm).1; omega
      have hbw : b < wr.heap.size := by omega
      go_wp2
      go_region_held3 (fun w' => w'.cell? ⟨b, o + k * 2, none⟩ = some (.string s1) ∧ w'.cell? ⟨b, o + k * 2 + 1, none⟩ = some (.string s2)) (first | go_keep | (exact keep_two2 hb1 (by simp; omega) (by assumption)) | (exact keep_two2 hb2 (by omega) (by assumption)) | (exact keep_far2 hgrow3 (by simp; omega) (by assumption) hbne))
        (first
          | (go_at_call 72; refine (refText_any s1 (by omega) wr.drew).mono ?_; rintro e w1 ⟨a1, k1, c1, rfl, ho1, hq1, hb1⟩; have hz1 : wr.heap.size ≤ w1.heap.size := by simpa using hb1.size)
          | (go_at_call 72; refine (refText_any s2 (by omega) w1).mono ?_; rintro e w2 ⟨a2, k2, c2, rfl, ho2, hq2, hb2⟩; have hz2 := hb2.size; have hrow2 := ((hrow.below (Below.refl _ _).drew).below hb1).below hb2)
          | (refine step_append_lies _ (by rfl) _ _ 88 (by rfl) w.heap.size 86 i0 (.slice none 0 0) 1 24 Tryz.underlying88 hi hi0 hi1 hi2 rfl (by decide) (.slice a7 n7 c7) vs.length vs (by rfl) (hrow2.own.alloc _) ⟨w2.heap.size, 0, none⟩ 2 2 [.slice (some a1) k1 c1, .slice (some a2) k2 c2] (by rfl) rfl (World.news_of_block (cs := #[.slice (some a1) k1 c1, .slice (some a2) k2 c2]) (heap_alloc_new _ _)) (by intro u' hu'; simp at hu'; rcases hu' with rfl | rfl <;> rfl) (by decide) (by unfold maxLen; omega) (by omega) (by simp; omega) (w2.heap.size + 1) (by simp) ?_; intro g cap w3 hown3 hgrow3 hat3 hlt3))
      have hbb : Below wr.heap.size wr w2 := ((Below.refl wr.heap.size wr).drew.trans (hb1.mono (by simp))).trans (hb2.mono hz1)
      have hrow3 : RowOf w3 w.heap.size (.slice (some ⟨g, 0, none⟩) (vs.length + 2) cap) (vs ++ [.slice (some a1) k1 c1, .slice (some a2) k2 c2]) (partsK (ps.take (k + 1))) := by
        rw [HM.out]
        refine hrow.steps hbb rfl (fun j hj => ?_) ?_ hown3 hgrow3 (hat3.imp (fun e => e.symm) (fun e => by rw [e]; rfl))
        · match j, hj with
          | 0, _ => exact ho1.below hb2 (Nat.le_refl _)
          | 1, _ => exact ho2
        · intro y hy q n' c' e
          simp only [List.mem_cons, List.not_mem_nil, or_false] at hy
          rcases hy with rfl | rfl
          · simp only [Value.slice.injEq, Option.some.injEq] at e
            obtain ⟨rfl, -, -⟩ := e
            have := src_lt ho1 (putText_ne _)
            simp only [World.size_drew] at hq1
            omega
          · simp only [Value.slice.injEq, Option.some.injEq] at e
            obtain ⟨rfl, -, -⟩ := e
            have := src_lt ho2 (putText_ne _)
            omega
      have hnx3 : Below w.heap.size w w3 := ((hnx.trans (hbb.mono hs1)).alloc (by omega) _).grown hgrow3 (by simp; omega) (fun j hj => (hrow.own.lt j hj).1)
      clear hown3 hgrow3 hat3
      go_wp2
      go_roundw
      case rel => exact ⟨k + 1, _, _, _, _, by omega, by go_num, rfl, hrow3, hnx3⟩
      case measure => simp [intOf]; omega
    · obtain rfl : k = ps.length := by omega
      rw [List.take_length] at hrow
      obtain ⟨hn7, hparts⟩ := hrow.parts
      have HL := refList_any a7 c7 (partsK ps) wr hparts (by rw [partsK_len]; omega) HF.out
      rw [← hn7] at HL
      have HL := Lib.hid HL
      clear hparts h hn7
      go_wp2_with (go_at_call 73; refine HL.out.mono ?_; rintro e w4 ⟨a4, k4, c4, rfl, ho4, hb4⟩; refine Hid.out ?_)
      refine Lib.hid ?_
      have hcv := src_string ho4
      go_wp2
      go_ret
      exact ⟨rfl, hnx.trans (hb4.mono hs1)⟩

end Go.Proofs.YtmanjegdgjeeiaaGreatDoor
