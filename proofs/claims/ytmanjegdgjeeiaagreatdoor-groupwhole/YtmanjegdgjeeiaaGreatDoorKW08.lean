/-
  What Key of package group does: the bytes of a list of the route's number and of the texts of each name and value. An alert, plainly.
-/
import Derived.Test.YtmanjegdgjeeiaaGreatDoorKW07
namespace Go.Proofs.YtmanjegdgjeeiaaGreatDoor
open Go.RowKit

/-- The parts of a group's key. -/
def partsQ (n : Int) (ps : List Pr) : List (List UInt8) := putInt n :: partsK ps
/-- The bytes of a group's key. -/
def gKeyL (n : Int) (ps : List Pr) : List UInt8 := putList (partsQ n ps)
theorem partsQ_len (n : Int) (ps : List Pr) : (partsQ n ps).length = ps.length * 2 + 1 := by simp [partsQ, partsK_len]
theorem partsQ_take (n : Int) (ps : List Pr) (k : Nat) (hk : k < ps.length) : partsQ n (ps.take (k + 1)) = partsQ n (ps.take k) ++ [putText ps[k].1.data.toList, putText ps[k].2.data.toList] := by
  unfold partsQ
  rw [partsK_take ps k hk, List.cons_append]

/-- A row of one part. -/
theorem RowOf.one {w : World} {B : Nat} {a : Option Addr} {k c : Nat} {l : List UInt8} (hB : B ≤ w.heap.size) (h : Own w B (.slice a k c) l) : RowOf (w.alloc (.cells #[.slice a k c] 86)) B (.slice (some ⟨w.heap.size, 0, none⟩) 1 1) [.slice a k c] [l] := by
  have hb1 : Below w.heap.size w (w.alloc (.cells #[.slice a k c] 86)) := (Below.refl _ _).alloc (Nat.le_refl _) _
  refine ⟨⟨rfl, .inr ⟨w.heap.size, 1, #[.slice a k c], rfl, hB, heap_alloc_new w _, Nat.le_refl _, by unfold maxLen; omega, rfl, rfl⟩⟩, rfl, fun j hj => ?_, fun j hj q n c' e => ?_, fun j hj q n c' e => ?_⟩
  · match j, hj with
    | 0, _ => exact h.src.below hb1 (Nat.le_refl _)
  · match j, hj with
    | 0, _ =>
      have := own_block_lt h q n c' e
      intro e2
      simp [Value.ownBlock] at e2
      omega
  · match j, hj with
    | 0, _ =>
      have := own_block_lt h q n c' e
      have h2 := hb1.size
      omega

set_option maxHeartbeats 4000000 in
set_option maxRecDepth 100000 in
theorem gKey_any (n0 : Int) (hn0 : -9223372036854775808 ≤ n0) (hn1 : n0 ≤ 9223372036854775807) (a : Option Addr) (c : Nat) (ps : List Pr) (B : Nat) (w : World) (h : PairsAt w a ps) (hl : ps.length ≤ 1048576) (hsz : ∀ p ∈ ps, p.1.size ≤ 1048576 ∧ p.2.size ≤ 1048576) (hf : (partsQ n0 ps).flatten.length ≤ 140737488355000)
    (hB : B ≤ w.heap.size) (hvv : VarsOk B w) (n : Nat) (hn : n = ps.length) :
    Calls Tryz.prog 14 #[.int .i64 n0, .slice a n c] w fun e w' => e = .returned (.string ⟨(gKeyL n0 ps).toArray⟩) ∧ Below w.heap.size w w' := by
  subst hn
  obtain ⟨i0, hi, hi0, hi1, hi2⟩ := info_parts infoBytes
  have HSZ := Lib.hid hsz
  have HF := Lib.hid hf
  clear hsz hf
  have hv := hvv.tabOk
  have HI := Lib.hid (Int_val n0 hn0 hn1 B w hB hvv)
  go_enter Tryz.func14, Tryz.ntmps14
  go_wp2_with (go_at_call 42; refine HI.out.mono ?_; rintro e wi ⟨ai, ki, ci, rfl, hoi, hbi⟩; refine Hid.out ?_)
  refine Lib.hid ?_
  have hsi := hbi.size
  have hr0 := RowOf.one (B := w.heap.size) hsi hoi
  have hb0 : Below w.heap.size w (wi.alloc (.cells #[.slice ai ki ci] 86)) := hbi.alloc hsi _
  clear HI hoi hbi
  go_wp2
  generalize wi.alloc (.cells #[.slice ai ki ci] 86) = wj at *
  go_loopw [5, 13] (fun v i wr => ∃ (k : Nat) (a7 : Option Addr) (n7 c7 : Nat) (vs : List Value), k ≤ ps.length ∧ i = .int .i64 k ∧ v = .slice a7 n7 c7 ∧ RowOf wr w.heap.size (.slice a7 n7 c7) vs (partsQ n0 (ps.take k)) ∧ Below w.heap.size w wr) (fun _ i _ => ps.length - (intOf i).toNat)
  case atStart => exact ⟨0, _, _, _, _, Nat.zero_le _, rfl, rfl, hr0, hb0⟩
  case round =>
    obtain ⟨k, a7, n7, c7, vs, hk, rfl, rfl, hrow, hnx⟩ := hrel
    clear hr0 hb0
    have hs1 := hnx.size
    have hvr := hv.on (hnx.mono hB)
    by_cases hlt : k < ps.length
    · have hkl : (k : Int) < (ps.length : Int) := by omega
      obtain ⟨b, o, rfl, hc⟩ := h (by omega)
      obtain ⟨hc1, hc2⟩ := hc k hlt
      rw [← hnx.cell (p := ⟨b, o + k * 2, none⟩) (World.block_lt_of_cell? w _ hc1)] at hc1
      rw [← hnx.cell (p := ⟨b, o + k * 2 + 1, none⟩) (World.block_lt_of_cell? w _ hc2)] at hc2
      obtain ⟨hz1, hz2⟩ := HSZ.out ps[k] (List.getElem_mem _)
      have hlen := hrow.len
      rw [partsQ_len, List.length_take] at hlen
      have hlb : vs.length ≤ 2097153 := by omega
      clear hlen
      have HM := Lib.hid (partsQ_take n0 ps k hlt)
      clear hc h
      generalize ps[k].1 = s1 at *
      generalize ps[k].2 = s2 at *
      have hwb : Below w.heap.size w (wr.alloc (.cells #[.string s1, .string s2] 57)) := hnx.alloc hs1 _
      have hrowb := hrow.below ((Below.refl wr.heap.size wr).alloc (Nat.le_refl _) (.cells #[.string s1, .string s2] 57))
      have hx1 : (wr.alloc (.cells #[.string s1, .string s2] 57)).cell? ⟨wr.heap.size, 0, none⟩ = some (.string s1) := by rw [World.cell?_alloc_mark]; rfl
      have hx2 : (wr.alloc (.cells #[.string s1, .string s2] 57)).cell? ⟨wr.heap.size, 1, none⟩ = some (.string s2) := by rw [World.cell?_alloc_mark]; rfl
      have hsb : (wr.alloc (.cells #[.string s1, .string s2] 57)).heap.size = wr.heap.size + 1 := by simp
      have hxne : some wr.heap.size ≠ (Value.slice a7 n7 c7).ownBlock := fun e => absurd (hrow.own.lt _ e.symm).2 (Nat.lt_irrefl _)
      go_wp2
      generalize wr.alloc (.cells #[.string s1, .string s2] 57) = wb at *
      have hvb := hv.on (hwb.mono hB)
      generalize wr.heap.size = x at *
      clear hc1 hc2 hrow hnx hvr
      have hwbs := hwb.size
      go_region_held3 (fun w' => w'.cell? ⟨x, 0, none⟩ = some (.string s1) ∧ w'.cell? ⟨x, 1, none⟩ = some (.string s2)) (first | go_keep | (exact keep_below hb1 (by simp; omega) (by assumption)) | (exact keep_below hb2 (by omega) (by assumption)) | (exact keep_grown hgrow3 (by simp; omega) (by assumption) hxne))
        (first
          | (go_at_call 43; refine (Text_tabv s1 (by omega) B wb.drew (by simp; omega) (hvb.on (Below.refl _ _).drew)).mono ?_; rintro e w1 ⟨a1, k1, c1, rfl, ho1, hb1⟩; have hq1 : wb.heap.size ≤ w1.heap.size := by simpa using hb1.size)
          | (go_at_call 43; refine (Text_tabv s2 (by omega) B w1 (by omega) ((hvb.on (Below.refl _ _).drew).on (hb1.mono (by simp; omega)))).mono ?_; rintro e w2 ⟨a2, k2, c2, rfl, ho2, hb2⟩; have hq2 := hb2.size; have hrow2 := ((hrowb.below (Below.refl _ _).drew).below hb1).below hb2)
          | (refine step_append_lies _ (by rfl) _ _ 88 (by rfl) w.heap.size 86 i0 (.slice none 0 0) 1 24 Tryz.underlying88 hi hi0 hi1 hi2 rfl (by decide) (.slice a7 n7 c7) vs.length vs (by rfl) (hrow2.own.alloc _) ⟨w2.heap.size, 0, none⟩ 2 2 [.slice a1 k1 c1, .slice a2 k2 c2] (by rfl) rfl (World.news_of_block (cs := #[.slice a1 k1 c1, .slice a2 k2 c2]) (heap_alloc_new _ _)) (by intro u' hu'; simp at hu'; rcases hu' with rfl | rfl <;> rfl) (by decide) (by unfold maxLen; omega) (by omega) (by simp; omega) (w2.heap.size + 1) (by simp) ?_; intro g cap w3 hown3 hgrow3 hat3 hlt3))
      have hbb : Below wb.heap.size wb w2 := ((Below.refl wb.heap.size wb).drew.trans (hb1.mono (by simp))).trans (hb2.mono hq1)
      have hrow3 : RowOf w3 w.heap.size (.slice (some ⟨g, 0, none⟩) (vs.length + 2) cap) (vs ++ [.slice a1 k1 c1, .slice a2 k2 c2]) (partsQ n0 (ps.take (k + 1))) := by
        rw [HM.out]
        refine hrowb.steps hbb rfl (fun j hj => ?_) ?_ hown3 hgrow3 (hat3.imp (fun e => e.symm) (fun e => by rw [e]; rfl))
        · match j, hj with
          | 0, _ => exact (ho1.src).below hb2 (Nat.le_refl _)
          | 1, _ => exact ho2.src
        · intro y hy q n' c' e
          simp only [List.mem_cons, List.not_mem_nil, or_false] at hy
          rcases hy with rfl | rfl
          · have := own_block_lt ho1 q n' c' e
            simp only [World.size_drew] at this
            omega
          · have := own_block_lt ho2 q n' c' e
            omega
      have hnx3 : Below w.heap.size w w3 := ((hwb.trans (hbb.mono hwbs)).alloc (by omega) _).grown hgrow3 (by simp; omega) (fun j hj => (hrowb.own.lt j hj).1)
      clear hown3 hgrow3 hat3
      go_wp2
      go_roundw
      case rel => exact ⟨k + 1, _, _, _, _, by omega, by go_num, rfl, hrow3, hnx3⟩
      case measure => simp [intOf]; omega
    · obtain rfl : k = ps.length := by omega
      rw [List.take_length] at hrow
      obtain ⟨hn7, hparts⟩ := hrow.parts
      have HL := Lib.hid (List_val a7 c7 (partsQ n0 ps) wr hparts (by rw [partsQ_len]; omega) HF.out n7 hn7)
      clear hparts h hn7
      go_wp2_with (go_at_call 44; refine HL.out.mono ?_; rintro e w4 ⟨a4, k4, c4, rfl, ho4, hb4⟩; refine Hid.out ?_)
      refine Lib.hid ?_
      have hcv := own_string ho4
      go_wp2
      go_ret
      exact ⟨rfl, hnx.trans (hb4.mono hs1)⟩

/-- An alert: its labels, its Start, its End; where its labels lie. -/
structure Rw where
  ps : List Pr
  st : Int
  en : Int
  ad : Option Addr
  cp : Nat
def Rw.key (r : Rw) : List UInt8 := keyL r.ps
/-- What is told of an alert. -/
abbrev Al := List Pr × Int × Int
def Rw.al (r : Rw) : Al := (r.ps, r.st, r.en)
def encW (r : Rw) : List Value := [.slice r.ad r.ps.length r.cp, .int .i64 r.st, .int .i64 r.en]
/-- An alert with its key. -/
def encK (r : Rw) : List Value := [.slice r.ad r.ps.length r.cp, .int .i64 r.st, .int .i64 r.en, .string ⟨r.key.toArray⟩]
def cellsK (L : List Rw) : List Value := L.flatMap encK
theorem cellsK_len : ∀ L : List Rw, (cellsK L).length = L.length * 4
  | [] => rfl
  | p :: r => by
    have := cellsK_len r
    simp only [cellsK, List.flatMap_cons, List.length_append, List.length_cons] at *
    rw [this]
    simp [encK]
    omega
theorem cellsK_append (L M : List Rw) : cellsK (L ++ M) = cellsK L ++ cellsK M := List.flatMap_append
theorem cellsK_get : ∀ (L : List Rw) (i : Nat) (hi : i < L.length), (cellsK L)[i * 4]? = some (.slice L[i].ad L[i].ps.length L[i].cp) ∧ (cellsK L)[i * 4 + 1]? = some (.int .i64 L[i].st) ∧ (cellsK L)[i * 4 + 2]? = some (.int .i64 L[i].en) ∧ (cellsK L)[i * 4 + 3]? = some (.string ⟨L[i].key.toArray⟩)
  | p :: r, 0, _ => ⟨rfl, rfl, rfl, rfl⟩
  | p :: r, i + 1, hi => by
    have := cellsK_get r i (by simpa using hi)
    have e : cellsK (p :: r) = encK p ++ cellsK r := rfl
    have el : (encK p).length = 4 := rfl
    rw [e, List.getElem?_append_right (by omega), List.getElem?_append_right (by omega), List.getElem?_append_right (by omega), List.getElem?_append_right (by omega), el]
    simpa [show (i + 1) * 4 - 4 = i * 4 by omega, show (i + 1) * 4 + 1 - 4 = i * 4 + 1 by omega, show (i + 1) * 4 + 2 - 4 = i * 4 + 2 by omega, show (i + 1) * 4 + 3 - 4 = i * 4 + 3 by omega] using this
theorem cellsK_one {L : List Rw} : ∀ u ∈ cellsK L, u.oneCell' = true := fun u h => by
  obtain ⟨r, -, hr⟩ := List.mem_flatMap.1 h
  simp [encK] at hr
  rcases hr with rfl | rfl | rfl | rfl <;> rfl

/-- Alerts lie at an address, and their labels where they say. -/
def AlsAt (w : World) (a : Option Addr) (L : List Rw) : Prop :=
  0 < L.length → ∃ b o, a = some ⟨b, o, none⟩ ∧ b < w.heap.size ∧ ∀ i (hi : i < L.length), w.cell? ⟨b, o + i * 3, none⟩ = some (.slice L[i].ad L[i].ps.length L[i].cp) ∧ w.cell? ⟨b, o + i * 3 + 1, none⟩ = some (.int .i64 L[i].st) ∧ w.cell? ⟨b, o + i * 3 + 2, none⟩ = some (.int .i64 L[i].en) ∧ PairsAt w L[i].ad L[i].ps
theorem AlsAt.below {w w' : World} {a : Option Addr} {L : List Rw} {B : Nat} (h : AlsAt w a L) (hb : Below B w w') (hB : w.heap.size ≤ B) : AlsAt w' a L := fun hn => by
  obtain ⟨b, o, rfl, hbl, hc⟩ := h hn
  refine ⟨b, o, rfl, Nat.lt_of_lt_of_le hbl hb.size, fun i hi => ?_⟩
  obtain ⟨h1, h2, h3, h4⟩ := hc i hi
  have hlt := Nat.lt_of_lt_of_le hbl hB
  rw [hb.cell (p := ⟨b, o + i * 3, none⟩) hlt, hb.cell (p := ⟨b, o + i * 3 + 1, none⟩) hlt, hb.cell (p := ⟨b, o + i * 3 + 2, none⟩) hlt]
  exact ⟨h1, h2, h3, h4.below hb hB⟩

/-- Few and small enough. -/
def RwLight (r : Rw) : Prop := r.ps.length ≤ 10 ∧ ∀ p ∈ r.ps, p.1.size ≤ 100 ∧ p.2.size ≤ 100
theorem putText_le (s : List UInt8) (h : s.length ≤ 100) : (putText s).length ≤ 121 := by
  have := itoa_len20 s.length (by omega) (by omega)
  simp [putText]
  omega
theorem flatK_le : ∀ ps : List Pr, (∀ p ∈ ps, p.1.size ≤ 100 ∧ p.2.size ≤ 100) → (partsK ps).flatten.length ≤ ps.length * 242
  | [], _ => by simp [partsK]
  | p :: r, h => by
    have ih := flatK_le r fun q hq => h q (List.mem_cons_of_mem _ hq)
    have hp := h p (List.mem_cons_self ..)
    have e : partsK (p :: r) = [putText p.1.data.toList, putText p.2.data.toList] ++ partsK r := rfl
    have h1 := putText_le p.1.data.toList hp.1
    have h2 := putText_le p.2.data.toList hp.2
    rw [e, List.flatten_append, List.length_append]
    simp only [List.flatten_cons, List.flatten_nil, List.append_nil, List.length_append, List.length_cons]
    omega
theorem RwLight.flat {r : Rw} (h : RwLight r) : (partsK r.ps).flatten.length ≤ 2420 := by
  have := flatK_le r.ps h.2
  have := h.1
  omega
theorem RwLight.key_le {r : Rw} (h : RwLight r) : r.key.length ≤ 2422 := by
  have := h.flat
  show (putList _).length ≤ _
  simp only [putList, List.length_append, List.length_cons, List.length_nil]
  omega

end Go.Proofs.YtmanjegdgjeeiaaGreatDoor
