/-
  What Key does: the bytes of a list of the texts of each name and value.
-/
import Derived.Test.YtmanjegdgjeeiaaGreatDoorKW05
import Derived.Deep.RegionHeld3
import Derived.Deep.AppendLies
namespace Go.Proofs.YtmanjegdgjeeiaaGreatDoor
open Go.RowKit

/-- The parts of a key. -/
def partsK (ps : List Pr) : List (List UInt8) := ps.flatMap fun p => [putText p.1.data.toList, putText p.2.data.toList]
/-- The bytes of a key. -/
def keyL (ps : List Pr) : List UInt8 := putList (partsK ps)

theorem partsK_len : ∀ ps : List Pr, (partsK ps).length = ps.length * 2
  | [] => rfl
  | p :: r => by
    have := partsK_len r
    simp only [partsK, List.flatMap_cons, List.length_append, List.length_cons] at *
    rw [this]
    simp
    omega
theorem partsK_take (ps : List Pr) (k : Nat) (hk : k < ps.length) : partsK (ps.take (k + 1)) = partsK (ps.take k) ++ [putText ps[k].1.data.toList, putText ps[k].2.data.toList] := by
  rw [List.take_succ_eq_append_getElem hk]
  unfold partsK
  rw [List.flatMap_append]
  simp

theorem keep_below {w w' : World} {B x : Nat} {v1 v2 : Value} (hb : Below B w w') (hx : x < B) (h : w.cell? ⟨x, 0, none⟩ = some v1 ∧ w.cell? ⟨x, 1, none⟩ = some v2) : w'.cell? ⟨x, 0, none⟩ = some v1 ∧ w'.cell? ⟨x, 1, none⟩ = some v2 :=
  ⟨by rw [hb.cell (p := ⟨x, 0, none⟩) hx]; exact h.1, by rw [hb.cell (p := ⟨x, 1, none⟩) hx]; exact h.2⟩

theorem keep_grown {w w' : World} {r : Option Nat} {x : Nat} {v1 v2 : Value} (hg : w.grownBy w' r) (hx : x < w.heap.size) (h : w.cell? ⟨x, 0, none⟩ = some v1 ∧ w.cell? ⟨x, 1, none⟩ = some v2) (hne : some x ≠ r) : w'.cell? ⟨x, 0, none⟩ = some v1 ∧ w'.cell? ⟨x, 1, none⟩ = some v2 :=
  ⟨by rw [hg.cell_far ⟨x, 0, none⟩ hx hne]; exact h.1, by rw [hg.cell_far ⟨x, 1, none⟩ hx hne]; exact h.2⟩

set_option maxHeartbeats 4000000 in
set_option maxRecDepth 100000 in
theorem Key_any (a : Option Addr) (c : Nat) (ps : List Pr) (B : Nat) (w : World) (h : PairsAt w a ps) (hl : ps.length ≤ 1048576) (hsz : ∀ p ∈ ps, p.1.size ≤ 1048576 ∧ p.2.size ≤ 1048576) (hf : (partsK ps).flatten.length ≤ 140737488355000)
    (hB : B ≤ w.heap.size) (hv : TabOk B w) (n : Nat) (hn : n = ps.length) :
    Calls Tryz.prog 57 #[.slice a n c] w fun e w' => e = .returned (.string ⟨(keyL ps).toArray⟩) ∧ Below w.heap.size w w' := by
  subst hn
  obtain ⟨i0, hi, hi0, hi1, hi2⟩ := info_parts infoBytes
  have HSZ := Lib.hid hsz
  have HF := Lib.hid hf
  clear hsz hf
  go_enter Tryz.func57, Tryz.ntmps57
  go_wp2
  go_loopw [3, 8] (fun v i wr => ∃ (k : Nat) (a7 : Option Addr) (n7 c7 : Nat) (vs : List Value), k ≤ ps.length ∧ i = .int .i64 k ∧ v = .slice a7 n7 c7 ∧ RowOf wr w.heap.size (.slice a7 n7 c7) vs (partsK (ps.take k)) ∧ Below w.heap.size w wr) (fun _ i _ => ps.length - (intOf i).toNat)
  case atStart => exact ⟨0, none, 0, 0, [], Nat.zero_le _, rfl, rfl, RowOf.nil _ _, Below.refl _ _⟩
  case round =>
    obtain ⟨k, a7, n7, c7, vs, hk, rfl, rfl, hrow, hnx⟩ := hrel
    have hs1 := hnx.size
    have hvr := hv.on (hnx.mono hB)
    by_cases hlt : k < ps.length
    · have hkl : (k : Int) < (ps.length : Int) := by omega
      obtain ⟨b, o, rfl, hc⟩ := h (by omega)
      obtain ⟨hc1, hc2⟩ := hc k hlt
      rw [← hnx.cell (p := ⟨b, o + k * 2, none⟩) (World.block_lt_of_cell? w _ hc1)] at hc1
      rw [← hnx.cell (p := ⟨b, o + k * 2 + 1, none⟩) (World.block_lt_of_cell? w _ hc2)] at hc2
      obtain ⟨hz1, hz2⟩ := HSZ.out ps[k] (List.getElem_mem _)
      have hlen := hrow.len
      rw [partsK_len, List.length_take] at hlen
      have hlb : vs.length ≤ 2097152 := by omega
      clear hlen
      have HM := Lib.hid (partsK_take ps k hlt)
      clear hc h
      generalize ps[k].1 = s1 at *
      generalize ps[k].2 = s2 at *
      have hwb : Below w.heap.size w (wr.alloc (.cells #[.string s1, .string s2] 57)) := hnx.alloc hs1 _
      have hrowb := hrow.below ((Below.refl wr.heap.size wr).alloc (Nat.le_refl _) (.cells #[.string s1, .string s2] 57))
      have hx1 : (wr.alloc (.cells #[.string s1, .string s2] 57)).cell? ⟨wr.heap.size, 0, none⟩ = some (.string s1) := by rw [World.cell?_alloc_mark]; rfl
      have hx2 : (wr.alloc (.cells #[.string s1, .string s2] 57)).cell? ⟨wr.heap.size, 1, none⟩ = some (.string s2) := by rw [World.cell?_alloc_mark]; rfl
      have hsb : (wr.alloc (.cells #[.string s1, .string s2] 57)).heap.size = wr.heap.size + 1 := by simp
      have hxne : some wr.heap.size ≠ (Value.slice a7 n7 c7).ownBlock := fun e => absurd (hrow.own.lt _ e.symm).2 (Nat.lt_irrefl _)
      go_wp2
      generalize wr.alloc (.cells #[.string s1, .string s2] 57) = wb at *
      have hvb := hv.on (hwb.mono hB)
      generalize wr.heap.size = x at *
      clear hc1 hc2 hrow hnx hvr
      have hwbs := hwb.size
      go_region_held3 (fun w' => w'.cell? ⟨x, 0, none⟩ = some (.string s1) ∧ w'.cell? ⟨x, 1, none⟩ = some (.string s2)) (first | go_keep | (exact keep_below hb1 (by simp; omega) (by assumption)) | (exact keep_below hb2 (by omega) (by assumption)) | (exact keep_grown hgrow3 (by simp; omega) (by assumption) hxne))
        (first
          | (go_at_call 43; refine (Text_tabv s1 (by omega) B wb.drew (by simp; omega) (hvb.on (Below.refl _ _).drew)).mono ?_; rintro e w1 ⟨a1, k1, c1, rfl, ho1, hb1⟩; have hq1 : wb.heap.size ≤ w1.heap.size := by simpa using hb1.size)
          | (go_at_call 43; refine (Text_tabv s2 (by omega) B w1 (by omega) ((hvb.on (Below.refl _ _).drew).on (hb1.mono (by simp; omega)))).mono ?_; rintro e w2 ⟨a2, k2, c2, rfl, ho2, hb2⟩; have hq2 := hb2.size; have hrow2 := ((hrowb.below (Below.refl _ _).drew).below hb1).below hb2)
          | (refine step_append_lies _ (by rfl) _ _ 88 (by rfl) w.heap.size 86 i0 (.slice none 0 0) 1 24 Tryz.underlying88 hi hi0 hi1 hi2 rfl (by decide) (.slice a7 n7 c7) vs.length vs (by rfl) (hrow2.own.alloc _) ⟨w2.heap.size, 0, none⟩ 2 2 [.slice a1 k1 c1, .slice a2 k2 c2] (by rfl) rfl (World.news_of_block (cs := #[.slice a1 k1 c1, .slice a2 k2 c2]) (heap_alloc_new _ _)) (by intro u' hu'; simp at hu'; rcases hu' with rfl | rfl <;> rfl) (by decide) (by unfold maxLen; omega) (by omega) (by simp; omega) (w2.heap.size + 1) (by simp) ?_; intro g cap w3 hown3 hgrow3 hat3 hlt3))
      have hbb : Below wb.heap.size wb w2 := ((Below.refl wb.heap.size wb).drew.trans (hb1.mono (by simp))).trans (hb2.mono hq1)
      have hrow3 : RowOf w3 w.heap.size (.slice (some ⟨g, 0, none⟩) (vs.length + 2) cap) (vs ++ [.slice a1 k1 c1, .slice a2 k2 c2]) (partsK (ps.take (k + 1))) := by
        rw [HM.out]
        refine hrowb.steps hbb rfl (fun j hj => ?_) ?_ hown3 hgrow3 (hat3.imp (fun e => e.symm) (fun e => by rw [e]; rfl))
        · match j, hj with
          | 0, _ => exact (ho1.src).below hb2 (Nat.le_refl _)
          | 1, _ => exact ho2.src
        · intro y hy q n' c' e
          simp only [List.mem_cons, List.not_mem_nil, or_false] at hy
          rcases hy with rfl | rfl
          · have := own_block_lt ho1 q n' c' e
            simp only [World.size_drew] at this
            omega
          · have := own_block_lt ho2 q n' c' e
            omega
      have hnx3 : Below w.heap.size w w3 := ((hwb.trans (hbb.mono hwbs)).alloc (by omega) _).grown hgrow3 (by simp; omega) (fun j hj => (hrowb.own.lt j hj).1)
      clear hown3 hgrow3 hat3
      go_wp2
      go_roundw
      case rel => exact ⟨k + 1, _, _, _, _, by omega, by go_num, rfl, hrow3, hnx3⟩
      case measure => simp [intOf]; omega
    · obtain rfl : k = ps.length := by omega
      rw [List.take_length] at hrow
      obtain ⟨hn7, hparts⟩ := hrow.parts
      have HL := Lib.hid (List_val a7 c7 (partsK ps) wr hparts (by rw [partsK_len]; omega) HF.out n7 hn7)
      clear hparts h hn7
      go_wp2_with (go_at_call 44; refine HL.out.mono ?_; rintro e w4 ⟨a4, k4, c4, rfl, ho4, hb4⟩; refine Hid.out ?_)
      refine Lib.hid ?_
      have hcv := own_string ho4
      go_wp2
      go_ret
      exact ⟨rfl, hnx.trans (hb4.mono hs1)⟩

end Go.Proofs.YtmanjegdgjeeiaaGreatDoor
