/-
  The reference's Light.
-/
import Derived.Test.YthaimnmbcbhioaaDoorRCheck
namespace Go.Proofs.YthaimnmbcbhioaaDoor
open Go.RowKit

/-- A configuration is light. -/
def LightC (l : List Rt) (ls : List Rl) : Prop := l.length ≤ 20 ∧ ls.length ≤ 12 ∧ (∀ i (hi : i < l.length), l[i].ms.length ≤ 12 ∧ l[i].bys.length ≤ 12) ∧ ∀ i (hi : i < ls.length), ls[i].src.length ≤ 12 ∧ ls[i].tgt.length ≤ 12 ∧ ls[i].eqs.length ≤ 12

set_option maxRecDepth 20000 in
set_option maxHeartbeats 4000000 in
theorem uLight_any (a : Option Addr) (c : Nat) (l : List Rt) (b : Option Addr) (d : Nat) (ls : List Rl) (pt rs : Int) (w : World) (hl : RtsAt w a l) (hls : RlsAt w b ls) (hn : l.length ≤ 9223372036854775807) (hm : ls.length ≤ 9223372036854775807) :
    Calls Tryd.prog 9 #[.agg #[.slice a l.length c, .slice b ls.length d, .int .i64 pt, .int .i64 rs]] w fun e w' => Tells (LightC l ls) e ∧ Below w.heap.size w w' := by
  have hA := (Below.refl w.heap.size w).alloc (Nat.le_refl _) (.cells #[.slice a l.length c, .slice b ls.length d, .int .i64 pt, .int .i64 rs] 25)
  have HB := Lib.hid hA
  have HNo : Hid (¬ LightC l ls → Tells (LightC l ls) (.returned (.bool false))) := Lib.hid fun h => ⟨false, rfl, by simp [h]⟩
  have HYes : Hid (LightC l ls → Tells (LightC l ls) (.returned (.bool true))) := Lib.hid fun h => ⟨true, rfl, by simp [h]⟩
  have HX1 : Hid (LightC l ls → l.length ≤ 20 ∧ ls.length ≤ 12) := Lib.hid fun h => ⟨h.1, h.2.1⟩
  have HX2 : Hid (LightC l ls → ∀ i (hi : i < l.length), l[i].ms.length ≤ 12 ∧ l[i].bys.length ≤ 12) := Lib.hid fun h => h.2.2.1
  have HX3 : Hid (LightC l ls → ∀ i (hi : i < ls.length), ls[i].src.length ≤ 12 ∧ ls[i].tgt.length ≤ 12 ∧ ls[i].eqs.length ≤ 12) := Lib.hid fun h => h.2.2.2
  by_cases h16 : 20 < l.length
  · have h16' : (20 : Int) < (l.length : Int) := by omega
    have HT := Lib.hid (HNo.out fun h => by have := (HX1.out h).1; omega)
    generalize LightC l ls = P at *
    clear hl hls hA HX2 HX3
    go_enter Tryd.func9, Tryd.ntmps9
    go_wp2
    go_ret
    exact ⟨HT.out, HB.out⟩
  have h16' : ¬ (20 : Int) < (l.length : Int) := by omega
  by_cases h8 : 12 < ls.length
  · have h8' : (12 : Int) < (ls.length : Int) := by omega
    have HT := Lib.hid (HNo.out fun h => by have := (HX1.out h).2; omega)
    generalize LightC l ls = P at *
    clear hl hls hA HX2 HX3
    go_enter Tryd.func9, Tryd.ntmps9
    go_wp2
    go_ret
    exact ⟨HT.out, HB.out⟩
  have h8' : ¬ (12 : Int) < (ls.length : Int) := by omega
  have HAll : Hid ((∀ i (hi : i < l.length), l[i].ms.length ≤ 12 ∧ l[i].bys.length ≤ 12) → (∀ i (hi : i < ls.length), ls[i].src.length ≤ 12 ∧ ls[i].tgt.length ≤ 12 ∧ ls[i].eqs.length ≤ 12) → LightC l ls) := Lib.hid fun h1 h2 => ⟨by omega, by omega, h1, h2⟩
  have HL := Lib.hid hl
  have HLs := Lib.hid hls
  have HBk : Hid (CfBlk (w.alloc (.cells #[.slice a l.length c, .slice b ls.length d, .int .i64 pt, .int .i64 rs] 25)) w.heap.size a l.length c b ls.length d pt rs) := Lib.hid (heap_new w _)
  generalize LightC l ls = P at *
  clear hl hls hA HX1
  go_enter Tryd.func9, Tryd.ntmps9
  go_wp2
  go_loopw [3] (fun i wr => ∃ k : Nat, k ≤ l.length ∧ i = .int .i64 k ∧ Hid (Below w.heap.size w wr) ∧ Hid (CfBlk wr w.heap.size a l.length c b ls.length d pt rs) ∧ Hid (∀ j (_ : j < k) (hj : j < l.length), l[j].ms.length ≤ 12 ∧ l[j].bys.length ≤ 12)) (fun i _ => l.length - (intOf i).toNat)
  case atStart => exact ⟨0, Nat.zero_le _, rfl, HB, HBk, Lib.hid fun j hj => absurd hj (Nat.not_lt_zero _)⟩
  case round =>
    clear HB HBk
    obtain ⟨k, hk, rfl, HB, HBk, HA⟩ := hrel
    have cc0 : wr.cell? ⟨w.heap.size, 0, none⟩ = some (.slice a l.length c) := cell_heap HBk.out
    have cc1 : wr.cell? ⟨w.heap.size, 1, none⟩ = some (.slice b ls.length d) := cell_heap HBk.out
    by_cases hlt : k < l.length
    · have hkl : (k : Int) < (l.length : Int) := by omega
      obtain ⟨rb, ro, rfl, hrb, hr⟩ := HL.out (by omega)
      obtain ⟨hr1, -, -⟩ := hr k hlt
      have c1 : wr.cell? ⟨rb, ro + k * 8 + 1, none⟩ = some (.slice l[k].ma l[k].ms.length l[k].mc) := (HB.out.cell (p := ⟨rb, ro + k * 8 + 1, none⟩) hrb).trans (hr1 1 _ rfl)
      have c3 : wr.cell? ⟨rb, ro + k * 8 + 3, none⟩ = some (.slice l[k].ba l[k].bys.length l[k].bc) := (HB.out.cell (p := ⟨rb, ro + k * 8 + 3, none⟩) hrb).trans (hr1 3 _ rfl)
      clear hr hr1
      have HN1 : Hid (¬ (l[k].ms.length ≤ 12 ∧ l[k].bys.length ≤ 12) → ¬ P) := Lib.hid fun h hp => h (HX2.out hp k hlt)
      have HA2 : Hid (l[k].ms.length ≤ 12 ∧ l[k].bys.length ≤ 12 → ∀ j (_ : j < k + 1) (hj : j < l.length), l[j].ms.length ≤ 12 ∧ l[j].bys.length ≤ 12) := Lib.hid fun h0 j hj hl => by
        by_cases e : j = k
        · subst e; exact h0
        · exact HA.out j (by omega) hl
      generalize l[k].ma = x1 at *
      generalize l[k].mc = x3 at *
      generalize l[k].ba = x5 at *
      generalize l[k].bc = x7 at *
      generalize l[k].ms.length = x2 at *
      generalize l[k].bys.length = x6 at *
      clear HA
      by_cases g1 : 12 < x2
      · have g1' : (12 : Int) < (x2 : Int) := by omega
        have HT := Lib.hid (HNo.out (HN1.out fun h => by omega))
        clear HN1 HA2 HX2 HX3 HAll
        go_wp2
        go_ret
        exact ⟨HT.out, HB.out⟩
      have g1' : ¬ (12 : Int) < (x2 : Int) := by omega
      by_cases g2 : 12 < x6
      · have g2' : (12 : Int) < (x6 : Int) := by omega
        have HT := Lib.hid (HNo.out (HN1.out fun h => by omega))
        clear HN1 HA2 HX2 HX3 HAll
        go_wp2
        go_ret
        exact ⟨HT.out, HB.out⟩
      · have g2' : ¬ (12 : Int) < (x6 : Int) := by omega
        have HA3 := Lib.hid (HA2.out ⟨by omega, by omega⟩)
        clear HN1 HA2
        go_wp2
        go_roundw
        case rel => exact ⟨k + 1, by omega, by go_num, HB, HBk, HA3⟩
        case measure => simp [intOf]; omega
    · obtain rfl : k = l.length := by omega
      have HAl := Lib.hid (fun h2 => HAll.out (fun i hi => HA.out i hi hi) h2)
      clear HA HAll HX2 HL
      go_wp2
      clear cc0 cc1
      go_loopw [4] (fun i wr => ∃ k : Nat, k ≤ ls.length ∧ i = .int .i64 k ∧ Hid (Below w.heap.size w wr) ∧ Hid (CfBlk wr w.heap.size a l.length c b ls.length d pt rs) ∧ Hid (∀ j (_ : j < k) (hj : j < ls.length), ls[j].src.length ≤ 12 ∧ ls[j].tgt.length ≤ 12 ∧ ls[j].eqs.length ≤ 12)) (fun i _ => ls.length - (intOf i).toNat)
      case atStart => exact ⟨0, Nat.zero_le _, rfl, HB, HBk, Lib.hid fun j hj => absurd hj (Nat.not_lt_zero _)⟩
      case round =>
        clear HB HBk
        obtain ⟨k, hk2, rfl, HB, HBk, HA⟩ := hrel
        have cc1 : wr.cell? ⟨w.heap.size, 1, none⟩ = some (.slice b ls.length d) := cell_heap HBk.out
        by_cases hlt2 : k < ls.length
        · have hkl : (k : Int) < (ls.length : Int) := by omega
          obtain ⟨rb, ro, rfl, hrb, hr⟩ := HLs.out (by omega)
          obtain ⟨hr1, -, -, -⟩ := hr k hlt2
          have c0 : wr.cell? ⟨rb, ro + k * 3, none⟩ = some (.slice ls[k].sa ls[k].src.length ls[k].sc) := (HB.out.cell (p := ⟨rb, ro + k * 3, none⟩) hrb).trans (hr1 0 _ rfl)
          have c1 : wr.cell? ⟨rb, ro + k * 3 + 1, none⟩ = some (.slice ls[k].ta ls[k].tgt.length ls[k].tc) := (HB.out.cell (p := ⟨rb, ro + k * 3 + 1, none⟩) hrb).trans (hr1 1 _ rfl)
          have c2 : wr.cell? ⟨rb, ro + k * 3 + 2, none⟩ = some (.slice ls[k].ea ls[k].eqs.length ls[k].ec) := (HB.out.cell (p := ⟨rb, ro + k * 3 + 2, none⟩) hrb).trans (hr1 2 _ rfl)
          clear hr hr1
          have HN1 : Hid (¬ (ls[k].src.length ≤ 12 ∧ ls[k].tgt.length ≤ 12 ∧ ls[k].eqs.length ≤ 12) → ¬ P) := Lib.hid fun h hp => h (HX3.out hp k hlt2)
          have HA2 : Hid (ls[k].src.length ≤ 12 ∧ ls[k].tgt.length ≤ 12 ∧ ls[k].eqs.length ≤ 12 → ∀ j (_ : j < k + 1) (hj : j < ls.length), ls[j].src.length ≤ 12 ∧ ls[j].tgt.length ≤ 12 ∧ ls[j].eqs.length ≤ 12) := Lib.hid fun h0 j hj hl => by
            by_cases e : j = k
            · subst e; exact h0
            · exact HA.out j (by omega) hl
          generalize ls[k].sa = x1 at *
          generalize ls[k].sc = x3 at *
          generalize ls[k].ta = x5 at *
          generalize ls[k].tc = x7 at *
          generalize ls[k].ea = x8 at *
          generalize ls[k].ec = x9 at *
          generalize ls[k].src.length = y1 at *
          generalize ls[k].tgt.length = y2 at *
          generalize ls[k].eqs.length = y3 at *
          clear HA
          by_cases g1 : 12 < y1
          · have g1' : (12 : Int) < (y1 : Int) := by omega
            have HT := Lib.hid (HNo.out (HN1.out fun h => by omega))
            clear HN1 HA2 HX3 HAl
            go_wp2
            go_ret
            exact ⟨HT.out, HB.out⟩
          have g1' : ¬ (12 : Int) < (y1 : Int) := by omega
          by_cases g2 : 12 < y2
          · have g2' : (12 : Int) < (y2 : Int) := by omega
            have HT := Lib.hid (HNo.out (HN1.out fun h => by omega))
            clear HN1 HA2 HX3 HAl
            go_wp2
            go_ret
            exact ⟨HT.out, HB.out⟩
          have g2' : ¬ (12 : Int) < (y2 : Int) := by omega
          by_cases g3 : 12 < y3
          · have g3' : (12 : Int) < (y3 : Int) := by omega
            have HT := Lib.hid (HNo.out (HN1.out fun h => by omega))
            clear HN1 HA2 HX3 HAl
            go_wp2
            go_ret
            exact ⟨HT.out, HB.out⟩
          · have g3' : ¬ (12 : Int) < (y3 : Int) := by omega
            have HA3 := Lib.hid (HA2.out ⟨by omega, by omega, by omega⟩)
            clear HN1 HA2
            go_wp2
            go_roundw
            case rel => exact ⟨k + 1, by omega, by go_num, HB, HBk, HA3⟩
            case measure => simp [intOf]; omega
        · obtain rfl : k = ls.length := by omega
          have HT := Lib.hid (HYes.out (HAl.out fun i hi => HA.out i hi hi))
          clear HA HAl HX3
          go_wp2
          go_ret
          exact ⟨HT.out, HB.out⟩

end Go.Proofs.YthaimnmbcbhioaaDoor
