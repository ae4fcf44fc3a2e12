/-
  Whether two lists of routes, of rules, two configurations are one, as package route tells it.
-/
import Derived.Test.YthaimnmbcbhioaaDoorRSame
namespace Go.Proofs.YthaimnmbcbhioaaDoor
open Go.RowKit Go.Shelf

set_option maxRecDepth 20000 in
set_option maxHeartbeats 4000000 in
theorem eqFuncR_any (a : Option Addr) (c : Nat) (l : List Rt) (b : Option Addr) (d : Nat) (l2 : List Rt) (w : World) (h1 : RtsAt w a l) (h2 : RtsAt w b l2) (hn : l.length ≤ 1000) (hm : l2.length ≤ 1000) (fl : ∀ r ∈ l, RtFew r) (fl2 : ∀ r ∈ l2, RtFew r) :
    Calls Tryd.prog 31 #[.slice a l.length c, .slice b l2.length d, .func (.func 32) #[] #[]] w fun e w' => Tells (l.map nrm = l2.map nrm) e ∧ Below w.heap.size w w' := by
  have H1 := Lib.hid h1
  have H2 := Lib.hid h2
  have HF1 := Lib.hid fl
  have HF2 := Lib.hid fl2
  have eg : ∀ args w, (callFunc 32 args).run Tryd.prog w = .ok (.enter 32 args) w := enters_of Tryd.func32 (by kernel_rfl) rfl
  clear h1 h2 fl fl2
  by_cases hl : l.length = l2.length
  case neg =>
    have hl' : ((l.length : Int) != (l2.length : Int)) = true := by simp; omega
    have HT : Hid (Tells (l.map nrm = l2.map nrm) (.returned (.bool false))) := Lib.hid ⟨false, rfl, ⟨fun h => (by cases h), fun h => absurd (by simpa using congrArg List.length h) hl⟩⟩
    generalize (l.map nrm = l2.map nrm) = P at *
    go_enter Tryd.func31, Tryd.ntmps31
    go_wp2
    go_ret
    exact ⟨HT.out, Below.refl _ _⟩
  case pos =>
  have HL := Lib.hid hl
  have hl' : ((l.length : Int) != (l2.length : Int)) = false := by simp; omega
  obtain ⟨n, hnn⟩ : ∃ n, n = l2.length := ⟨_, rfl⟩
  have HNn := Lib.hid hnn
  rw [← hnn] at hl' hl ⊢
  rw [hl] at hl' ⊢
  have HLn := Lib.hid hl
  have hnb : n ≤ 1000 := by omega
  clear hnn hl
  generalize hPP : (l.map nrm = l2.map nrm) = P at *
  have HPP := Lib.hid hPP
  clear hPP
  go_enter Tryd.func31, Tryd.ntmps31
  go_wp2
  go_loopg [7, 8, 9, 17] n (fun gg _ _ _ s17 wr => ∃ k : Nat, k ≤ n ∧ n - k ≤ gg ∧ s17 = .int .i64 k ∧ Hid (Below w.heap.size w wr) ∧ Hid (∀ j (_ : j < k) (hj : j < l.length) (hj2 : j < l2.length), nrm l[j] = nrm l2[j]))
  case atStart => exact ⟨0, Nat.zero_le _, by omega, rfl, Lib.hid (Below.refl _ _), Lib.hid fun j hj => absurd hj (Nat.not_lt_zero _)⟩
  case round =>
    obtain ⟨k, hk, hg, rfl, HB, HA⟩ := hrel
    by_cases hlt : k < n
    · have hkl : (k : Int) < (n : Int) := by omega
      have hk1 : k < l.length := by have := HLn.out; omega
      have hk2 : k < l2.length := by have := HNn.out; omega
      obtain ⟨b1, o1, rfl, hb1, hcx⟩ := H1.out (by omega)
      obtain ⟨b2, o2, rfl, hb2, hcy⟩ := H2.out (by omega)
      obtain ⟨hx1, hx2⟩ := hcx k hk1
      obtain ⟨hy1, hy2⟩ := hcy k hk2
      have HN1 : Hid (¬ (nrm l[k] = nrm l2[k]) → ¬ P) := Lib.hid fun h hp => by
        rw [← HPP.out] at hp
        exact h (by simpa [hk1, hk2] using congrArg (fun q : List Rt => q[k]?) hp)
      have HA2 : Hid (nrm l[k] = nrm l2[k] → ∀ j (_ : j < k + 1) (hj : j < l.length) (hj2 : j < l2.length), nrm l[j] = nrm l2[j]) := Lib.hid fun h0 j hj h1 h2 => by
        by_cases e : j = k
        · subst e; exact h0
        · exact HA.out j (by omega) h1 h2
      have hfr := HF1.out _ (List.getElem_mem hk1)
      have hfs := HF2.out _ (List.getElem_mem hk2)
      replace hx2 : RtAt w l[k] := hx2
      replace hy2 : RtAt w l2[k] := hy2
      clear hcx hcy HA
      generalize l[k] = r at *
      generalize l2[k] = s at *
      clear hk1 hk2
      have e0 : wr.cell? ⟨b1, o1 + k * 8, none⟩ = some (.int .i64 r.par) := (HB.out.cell (p := ⟨b1, o1 + k * 8, none⟩) hb1).trans (hx1 0 _ rfl)
      have e1 : wr.cell? ⟨b1, o1 + k * 8 + 1, none⟩ = some (.slice r.ma r.ms.length r.mc) := (HB.out.cell (p := ⟨b1, o1 + k * 8 + 1, none⟩) hb1).trans (hx1 1 _ rfl)
      have e2 : wr.cell? ⟨b1, o1 + k * 8 + 2, none⟩ = some (.bool r.co) := (HB.out.cell (p := ⟨b1, o1 + k * 8 + 2, none⟩) hb1).trans (hx1 2 _ rfl)
      have e3 : wr.cell? ⟨b1, o1 + k * 8 + 3, none⟩ = some (.slice r.ba r.bys.length r.bc) := (HB.out.cell (p := ⟨b1, o1 + k * 8 + 3, none⟩) hb1).trans (hx1 3 _ rfl)
      have e4 : wr.cell? ⟨b1, o1 + k * 8 + 4, none⟩ = some (.string r.rc) := (HB.out.cell (p := ⟨b1, o1 + k * 8 + 4, none⟩) hb1).trans (hx1 4 _ rfl)
      have e5 : wr.cell? ⟨b1, o1 + k * 8 + 5, none⟩ = some (.int .i64 r.wt) := (HB.out.cell (p := ⟨b1, o1 + k * 8 + 5, none⟩) hb1).trans (hx1 5 _ rfl)
      have e6 : wr.cell? ⟨b1, o1 + k * 8 + 6, none⟩ = some (.int .i64 r.iv) := (HB.out.cell (p := ⟨b1, o1 + k * 8 + 6, none⟩) hb1).trans (hx1 6 _ rfl)
      have e7 : wr.cell? ⟨b1, o1 + k * 8 + 7, none⟩ = some (.int .i64 r.rp) := (HB.out.cell (p := ⟨b1, o1 + k * 8 + 7, none⟩) hb1).trans (hx1 7 _ rfl)
      have hsz := HB.out.size
      have hA : Below w.heap.size w (wr.alloc (.cells #[.int .i64 r.par, .slice r.ma r.ms.length r.mc, .bool r.co, .slice r.ba r.bys.length r.bc, .string r.rc, .int .i64 r.wt, .int .i64 r.iv, .int .i64 r.rp] 33)) := HB.out.alloc hsz _
      have f0 : (wr.alloc (.cells #[.int .i64 r.par, .slice r.ma r.ms.length r.mc, .bool r.co, .slice r.ba r.bys.length r.bc, .string r.rc, .int .i64 r.wt, .int .i64 r.iv, .int .i64 r.rp] 33)).cell? ⟨b2, o2 + k * 8, none⟩ = some (.int .i64 s.par) := (hA.cell (p := ⟨b2, o2 + k * 8, none⟩) hb2).trans (hy1 0 _ rfl)
      have f1 : (wr.alloc (.cells #[.int .i64 r.par, .slice r.ma r.ms.length r.mc, .bool r.co, .slice r.ba r.bys.length r.bc, .string r.rc, .int .i64 r.wt, .int .i64 r.iv, .int .i64 r.rp] 33)).cell? ⟨b2, o2 + k * 8 + 1, none⟩ = some (.slice s.ma s.ms.length s.mc) := (hA.cell (p := ⟨b2, o2 + k * 8 + 1, none⟩) hb2).trans (hy1 1 _ rfl)
      have f2 : (wr.alloc (.cells #[.int .i64 r.par, .slice r.ma r.ms.length r.mc, .bool r.co, .slice r.ba r.bys.length r.bc, .string r.rc, .int .i64 r.wt, .int .i64 r.iv, .int .i64 r.rp] 33)).cell? ⟨b2, o2 + k * 8 + 2, none⟩ = some (.bool s.co) := (hA.cell (p := ⟨b2, o2 + k * 8 + 2, none⟩) hb2).trans (hy1 2 _ rfl)
      have f3 : (wr.alloc (.cells #[.int .i64 r.par, .slice r.ma r.ms.length r.mc, .bool r.co, .slice r.ba r.bys.length r.bc, .string r.rc, .int .i64 r.wt, .int .i64 r.iv, .int .i64 r.rp] 33)).cell? ⟨b2, o2 + k * 8 + 3, none⟩ = some (.slice s.ba s.bys.length s.bc) := (hA.cell (p := ⟨b2, o2 + k * 8 + 3, none⟩) hb2).trans (hy1 3 _ rfl)
      have f4 : (wr.alloc (.cells #[.int .i64 r.par, .slice r.ma r.ms.length r.mc, .bool r.co, .slice r.ba r.bys.length r.bc, .string r.rc, .int .i64 r.wt, .int .i64 r.iv, .int .i64 r.rp] 33)).cell? ⟨b2, o2 + k * 8 + 4, none⟩ = some (.string s.rc) := (hA.cell (p := ⟨b2, o2 + k * 8 + 4, none⟩) hb2).trans (hy1 4 _ rfl)
      have f5 : (wr.alloc (.cells #[.int .i64 r.par, .slice r.ma r.ms.length r.mc, .bool r.co, .slice r.ba r.bys.length r.bc, .string r.rc, .int .i64 r.wt, .int .i64 r.iv, .int .i64 r.rp] 33)).cell? ⟨b2, o2 + k * 8 + 5, none⟩ = some (.int .i64 s.wt) := (hA.cell (p := ⟨b2, o2 + k * 8 + 5, none⟩) hb2).trans (hy1 5 _ rfl)
      have f6 : (wr.alloc (.cells #[.int .i64 r.par, .slice r.ma r.ms.length r.mc, .bool r.co, .slice r.ba r.bys.length r.bc, .string r.rc, .int .i64 r.wt, .int .i64 r.iv, .int .i64 r.rp] 33)).cell? ⟨b2, o2 + k * 8 + 6, none⟩ = some (.int .i64 s.iv) := (hA.cell (p := ⟨b2, o2 + k * 8 + 6, none⟩) hb2).trans (hy1 6 _ rfl)
      have f7 : (wr.alloc (.cells #[.int .i64 r.par, .slice r.ma r.ms.length r.mc, .bool r.co, .slice r.ba r.bys.length r.bc, .string r.rc, .int .i64 r.wt, .int .i64 r.iv, .int .i64 r.rp] 33)).cell? ⟨b2, o2 + k * 8 + 7, none⟩ = some (.int .i64 s.rp) := (hA.cell (p := ⟨b2, o2 + k * 8 + 7, none⟩) hb2).trans (hy1 7 _ rfl)
      have hA2 : Below w.heap.size w ((wr.alloc (.cells #[.int .i64 r.par, .slice r.ma r.ms.length r.mc, .bool r.co, .slice r.ba r.bys.length r.bc, .string r.rc, .int .i64 r.wt, .int .i64 r.iv, .int .i64 r.rp] 33)).alloc (.cells #[.int .i64 s.par, .slice s.ma s.ms.length s.mc, .bool s.co, .slice s.ba s.bys.length s.bc, .string s.rc, .int .i64 s.wt, .int .i64 s.iv, .int .i64 s.rp] 33)) := hA.alloc hA.size _
      have HC := Lib.hid (tsameRoute_any r s _ (hx2.below hA2 (Nat.le_refl _)) (hy2.below hA2 (Nat.le_refl _)) hfr hfs)
      have HA2w := Lib.hid hA2
      clear hx1 hy1 hx2 hy2 hfr hfs hA hA2
      generalize (nrm r = nrm s) = PP at *
      go_wp2_with (go_at_fn 32; refine HC.out.mono ?_; rintro e w3 ⟨⟨b3, rfl, hb3⟩, q3⟩; have HB3 := Lib.hid hb3; clear hb3; refine Hid.out ?_)
      refine Lib.hid ?_
      have E3 := Lib.hid (HA2w.out.trans (q3.mono HA2w.out.size))
      clear q3 HC HA2w e0 f0 e1 f1 e2 f2 e3 f3 e4 f4 e5 f5 e6 f6 e7 f7
      cases b3 with
      | true =>
        have HA3 := Lib.hid (HA2.out (HB3.out.1 rfl))
        clear HA2 HN1 HB3
        go_wp2
        go_roundg (n - (k + 1))
        case measure => omega
        case rel => exact ⟨k + 1, by omega, by omega, by go_num, E3, HA3⟩
      | false =>
        have HT : Hid (Tells P (.returned (.bool false))) := Lib.hid ⟨false, rfl, ⟨fun h => (by cases h), fun h => absurd h (HN1.out fun e => by have := HB3.out.2 e; cases this)⟩⟩
        clear HA2 HN1 HB3
        go_wp2
        go_ret
        exact ⟨HT.out, E3.out⟩
    · obtain rfl : k = n := by omega
      have HT : Hid (Tells P (.returned (.bool true))) := Lib.hid ⟨true, rfl, ⟨fun _ => by
        rw [← HPP.out]
        refine List.ext_getElem (by simpa using HL.out) fun i h1 h2 => ?_
        simp only [List.length_map] at h1 h2
        rw [List.getElem_map, List.getElem_map]
        exact HA.out i (by have := HLn.out; omega) h1 h2, fun _ => rfl⟩⟩
      clear HA
      go_wp2
      go_ret
      exact ⟨HT.out, HB.out⟩

set_option maxRecDepth 20000 in
set_option maxHeartbeats 4000000 in
theorem eqFuncL_any (a : Option Addr) (c : Nat) (l : List Rl) (b : Option Addr) (d : Nat) (l2 : List Rl) (w : World) (h1 : RlsAt w a l) (h2 : RlsAt w b l2) (hn : l.length ≤ 1000) (hm : l2.length ≤ 1000) (fl : ∀ r ∈ l, RuFew r) (fl2 : ∀ r ∈ l2, RuFew r) :
    Calls Tryd.prog 33 #[.slice a l.length c, .slice b l2.length d, .func (.func 34) #[] #[]] w fun e w' => Tells (l.map nrmL = l2.map nrmL) e ∧ Below w.heap.size w w' := by
  have H1 := Lib.hid h1
  have H2 := Lib.hid h2
  have HF1 := Lib.hid fl
  have HF2 := Lib.hid fl2
  have eg : ∀ args w, (callFunc 34 args).run Tryd.prog w = .ok (.enter 34 args) w := enters_of Tryd.func34 (by kernel_rfl) rfl
  clear h1 h2 fl fl2
  by_cases hl : l.length = l2.length
  case neg =>
    have hl' : ((l.length : Int) != (l2.length : Int)) = true := by simp; omega
    have HT : Hid (Tells (l.map nrmL = l2.map nrmL) (.returned (.bool false))) := Lib.hid ⟨false, rfl, ⟨fun h => (by cases h), fun h => absurd (by simpa using congrArg List.length h) hl⟩⟩
    generalize (l.map nrmL = l2.map nrmL) = P at *
    go_enter Tryd.func33, Tryd.ntmps33
    go_wp2
    go_ret
    exact ⟨HT.out, Below.refl _ _⟩
  case pos =>
  have HL := Lib.hid hl
  have hl' : ((l.length : Int) != (l2.length : Int)) = false := by simp; omega
  obtain ⟨n, hnn⟩ : ∃ n, n = l2.length := ⟨_, rfl⟩
  have HNn := Lib.hid hnn
  rw [← hnn] at hl' hl ⊢
  rw [hl] at hl' ⊢
  have HLn := Lib.hid hl
  have hnb : n ≤ 1000 := by omega
  clear hnn hl
  generalize hPP : (l.map nrmL = l2.map nrmL) = P at *
  have HPP := Lib.hid hPP
  clear hPP
  go_enter Tryd.func33, Tryd.ntmps33
  go_wp2
  go_loopg [7, 8, 9, 17] n (fun gg _ _ _ s17 wr => ∃ k : Nat, k ≤ n ∧ n - k ≤ gg ∧ s17 = .int .i64 k ∧ Hid (Below w.heap.size w wr) ∧ Hid (∀ j (_ : j < k) (hj : j < l.length) (hj2 : j < l2.length), nrmL l[j] = nrmL l2[j]))
  case atStart => exact ⟨0, Nat.zero_le _, by omega, rfl, Lib.hid (Below.refl _ _), Lib.hid fun j hj => absurd hj (Nat.not_lt_zero _)⟩
  case round =>
    obtain ⟨k, hk, hg, rfl, HB, HA⟩ := hrel
    by_cases hlt : k < n
    · have hkl : (k : Int) < (n : Int) := by omega
      have hk1 : k < l.length := by have := HLn.out; omega
      have hk2 : k < l2.length := by have := HNn.out; omega
      obtain ⟨b1, o1, rfl, hb1, hcx⟩ := H1.out (by omega)
      obtain ⟨b2, o2, rfl, hb2, hcy⟩ := H2.out (by omega)
      obtain ⟨hx1, hx2⟩ := hcx k hk1
      obtain ⟨hy1, hy2⟩ := hcy k hk2
      have HN1 : Hid (¬ (nrmL l[k] = nrmL l2[k]) → ¬ P) := Lib.hid fun h hp => by
        rw [← HPP.out] at hp
        exact h (by simpa [hk1, hk2] using congrArg (fun q : List Rl => q[k]?) hp)
      have HA2 : Hid (nrmL l[k] = nrmL l2[k] → ∀ j (_ : j < k + 1) (hj : j < l.length) (hj2 : j < l2.length), nrmL l[j] = nrmL l2[j]) := Lib.hid fun h0 j hj h1 h2 => by
        by_cases e : j = k
        · subst e; exact h0
        · exact HA.out j (by omega) h1 h2
      have hfr := HF1.out _ (List.getElem_mem hk1)
      have hfs := HF2.out _ (List.getElem_mem hk2)
      replace hx2 : RuAt w l[k] := hx2
      replace hy2 : RuAt w l2[k] := hy2
      clear hcx hcy HA
      generalize l[k] = r at *
      generalize l2[k] = s at *
      clear hk1 hk2
      have e0 : wr.cell? ⟨b1, o1 + k * 3, none⟩ = some (.slice r.sa r.src.length r.sc) := (HB.out.cell (p := ⟨b1, o1 + k * 3, none⟩) hb1).trans (hx1 0 _ rfl)
      have e1 : wr.cell? ⟨b1, o1 + k * 3 + 1, none⟩ = some (.slice r.ta r.tgt.length r.tc) := (HB.out.cell (p := ⟨b1, o1 + k * 3 + 1, none⟩) hb1).trans (hx1 1 _ rfl)
      have e2 : wr.cell? ⟨b1, o1 + k * 3 + 2, none⟩ = some (.slice r.ea r.eqs.length r.ec) := (HB.out.cell (p := ⟨b1, o1 + k * 3 + 2, none⟩) hb1).trans (hx1 2 _ rfl)
      have hsz := HB.out.size
      have hA : Below w.heap.size w (wr.alloc (.cells #[.slice r.sa r.src.length r.sc, .slice r.ta r.tgt.length r.tc, .slice r.ea r.eqs.length r.ec] 38)) := HB.out.alloc hsz _
      have f0 : (wr.alloc (.cells #[.slice r.sa r.src.length r.sc, .slice r.ta r.tgt.length r.tc, .slice r.ea r.eqs.length r.ec] 38)).cell? ⟨b2, o2 + k * 3, none⟩ = some (.slice s.sa s.src.length s.sc) := (hA.cell (p := ⟨b2, o2 + k * 3, none⟩) hb2).trans (hy1 0 _ rfl)
      have f1 : (wr.alloc (.cells #[.slice r.sa r.src.length r.sc, .slice r.ta r.tgt.length r.tc, .slice r.ea r.eqs.length r.ec] 38)).cell? ⟨b2, o2 + k * 3 + 1, none⟩ = some (.slice s.ta s.tgt.length s.tc) := (hA.cell (p := ⟨b2, o2 + k * 3 + 1, none⟩) hb2).trans (hy1 1 _ rfl)
      have f2 : (wr.alloc (.cells #[.slice r.sa r.src.length r.sc, .slice r.ta r.tgt.length r.tc, .slice r.ea r.eqs.length r.ec] 38)).cell? ⟨b2, o2 + k * 3 + 2, none⟩ = some (.slice s.ea s.eqs.length s.ec) := (hA.cell (p := ⟨b2, o2 + k * 3 + 2, none⟩) hb2).trans (hy1 2 _ rfl)
      have hA2 : Below w.heap.size w ((wr.alloc (.cells #[.slice r.sa r.src.length r.sc, .slice r.ta r.tgt.length r.tc, .slice r.ea r.eqs.length r.ec] 38)).alloc (.cells #[.slice s.sa s.src.length s.sc, .slice s.ta s.tgt.length s.tc, .slice s.ea s.eqs.length s.ec] 38)) := hA.alloc hA.size _
      have HC := Lib.hid (tsameRule_any r s _ (hx2.below hA2 (Nat.le_refl _)) (hy2.below hA2 (Nat.le_refl _)) hfr hfs)
      have HA2w := Lib.hid hA2
      clear hx1 hy1 hx2 hy2 hfr hfs hA hA2
      generalize (nrmL r = nrmL s) = PP at *
      go_wp2_with (go_at_fn 34; refine HC.out.mono ?_; rintro e w3 ⟨⟨b3, rfl, hb3⟩, q3⟩; have HB3 := Lib.hid hb3; clear hb3; refine Hid.out ?_)
      refine Lib.hid ?_
      have E3 := Lib.hid (HA2w.out.trans (q3.mono HA2w.out.size))
      clear q3 HC HA2w e0 f0 e1 f1 e2 f2
      cases b3 with
      | true =>
        have HA3 := Lib.hid (HA2.out (HB3.out.1 rfl))
        clear HA2 HN1 HB3
        go_wp2
        go_roundg (n - (k + 1))
        case measure => omega
        case rel => exact ⟨k + 1, by omega, by omega, by go_num, E3, HA3⟩
      | false =>
        have HT : Hid (Tells P (.returned (.bool false))) := Lib.hid ⟨false, rfl, ⟨fun h => (by cases h), fun h => absurd h (HN1.out fun e => by have := HB3.out.2 e; cases this)⟩⟩
        clear HA2 HN1 HB3
        go_wp2
        go_ret
        exact ⟨HT.out, E3.out⟩
    · obtain rfl : k = n := by omega
      have HT : Hid (Tells P (.returned (.bool true))) := Lib.hid ⟨true, rfl, ⟨fun _ => by
        rw [← HPP.out]
        refine List.ext_getElem (by simpa using HL.out) fun i h1 h2 => ?_
        simp only [List.length_map] at h1 h2
        rw [List.getElem_map, List.getElem_map]
        exact HA.out i (by have := HLn.out; omega) h1 h2, fun _ => rfl⟩⟩
      clear HA
      go_wp2
      go_ret
      exact ⟨HT.out, HB.out⟩

/-- Two configurations are one. -/
def SameC (l : List Rt) (ls : List Rl) (pt rs : Int) (l2 : List Rt) (ls2 : List Rl) (pt2 rs2 : Int) : Prop := l.map nrm = l2.map nrm ∧ ls.map nrmL = ls2.map nrmL ∧ pt = pt2 ∧ rs = rs2

set_option maxRecDepth 20000 in
set_option maxHeartbeats 4000000 in
theorem tSame_any (a : Option Addr) (c : Nat) (l : List Rt) (b : Option Addr) (d : Nat) (ls : List Rl) (pt rs : Int) (a2 : Option Addr) (c2 : Nat) (l2 : List Rt) (b2 : Option Addr) (d2 : Nat) (ls2 : List Rl) (pt2 rs2 : Int) (w : World) (h1 : RtsAt w a l) (h2 : RlsAt w b ls) (h3 : RtsAt w a2 l2) (h4 : RlsAt w b2 ls2)
    (n1 : l.length ≤ 1000) (n2 : ls.length ≤ 1000) (n3 : l2.length ≤ 1000) (n4 : ls2.length ≤ 1000) (f1 : ∀ r ∈ l, RtFew r) (f2 : ∀ r ∈ ls, RuFew r) (f3 : ∀ r ∈ l2, RtFew r) (f4 : ∀ r ∈ ls2, RuFew r) :
    Calls Tryd.prog 13 #[.agg #[.slice a l.length c, .slice b ls.length d, .int .i64 pt, .int .i64 rs], .agg #[.slice a2 l2.length c2, .slice b2 ls2.length d2, .int .i64 pt2, .int .i64 rs2]] w fun e w' => Tells (SameC l ls pt rs l2 ls2 pt2 rs2) e ∧ Below w.heap.size w w' := by
  obtain ⟨w1, hw1⟩ : ∃ x, x = w.alloc (.cells #[.slice a l.length c, .slice b ls.length d, .int .i64 pt, .int .i64 rs] 25) := ⟨_, rfl⟩
  obtain ⟨w2, hw2⟩ : ∃ x, x = w1.alloc (.cells #[.slice a2 l2.length c2, .slice b2 ls2.length d2, .int .i64 pt2, .int .i64 rs2] 25) := ⟨_, rfl⟩
  have s1 : w1.heap.size = w.heap.size + 1 := by rw [hw1]; simp
  have d1' : Below w.heap.size w w1 := by rw [hw1]; exact (Below.refl w.heap.size w).alloc (Nat.le_refl _) _
  have d2' : Below w1.heap.size w1 w2 := by rw [hw2]; exact (Below.refl w1.heap.size w1).alloc (Nat.le_refl _) _
  have k1 : CfBlk w1 w.heap.size a l.length c b ls.length d pt rs := by rw [hw1]; exact heap_new w _
  have k2 : CfBlk w2 (w.heap.size + 1) a2 l2.length c2 b2 ls2.length d2 pt2 rs2 := by rw [hw2, ← s1]; exact heap_new w1 _
  have K1 := Lib.hid (k1.below d2')
  have K2 := Lib.hid k2
  have E2 := Lib.hid (d1'.trans (d2'.mono d1'.size))
  have H1 := Lib.hid (fun u (hb : Below w.heap.size w u) => eqFuncR_any a c l a2 c2 l2 u (h1.below hb (Nat.le_refl _)) (h3.below hb (Nat.le_refl _)) n1 n3 f1 f3)
  have H2 := Lib.hid (fun u (hb : Below w.heap.size w u) => eqFuncL_any b d ls b2 d2 ls2 u (h2.below hb (Nat.le_refl _)) (h4.below hb (Nat.le_refl _)) n2 n4 f2 f4)
  have HI : Hid (SameC l ls pt rs l2 ls2 pt2 rs2 ↔ l.map nrm = l2.map nrm ∧ ls.map nrmL = ls2.map nrmL ∧ pt = pt2 ∧ rs = rs2) := Lib.hid Iff.rfl
  generalize SameC l ls pt rs l2 ls2 pt2 rs2 = P at *
  generalize (l.map nrm = l2.map nrm) = P1 at *
  generalize (ls.map nrmL = ls2.map nrmL) = P2 at *
  have H1' := Lib.hid (H1.out _ E2.out)
  clear d1' d2' k1 k2 s1 h1 h2 h3 h4 f1 f2 f3 f4 H1
  subst hw2
  subst hw1
  go_enter Tryd.func13, Tryd.ntmps13
  go_wp2_with (go_at_call 31; refine H1'.out.mono ?_; rintro e w3 ⟨⟨x1, rfl, hb1⟩, q3⟩; have HB1 := Lib.hid hb1; clear hb1; refine Hid.out ?_)
  refine Lib.hid ?_
  have E3 := Lib.hid (E2.out.trans (q3.mono E2.out.size))
  have K13 := Lib.hid (K1.out.below q3)
  have K23 := Lib.hid (K2.out.below q3)
  clear q3 E2 K1 K2 H1'
  cases x1 with
  | false =>
    have HT : Hid (Tells P (.returned (.bool false))) := Lib.hid ⟨false, rfl, ⟨fun h => (by cases h), fun h => by have := HB1.out.2 (HI.out.1 h).1; cases this⟩⟩
    clear HI HB1
    go_wp2
    go_ret
    exact ⟨HT.out, E3.out⟩
  | true =>
  have HP1 := Lib.hid (HB1.out.1 rfl)
  have y1 : w3.cell? ⟨w.heap.size, 1, none⟩ = some (.slice b ls.length d) := cell_heap K13.out
  have z1 : w3.cell? ⟨w.heap.size + 1, 1, none⟩ = some (.slice b2 ls2.length d2) := cell_heap K23.out
  have H2' := Lib.hid (H2.out _ E3.out)
  clear HB1
  go_wp2_with (go_at_call 33; refine H2'.out.mono ?_; rintro e w4 ⟨⟨x2, rfl, hb2⟩, q4⟩; have HB2 := Lib.hid hb2; clear hb2; refine Hid.out ?_)
  refine Lib.hid ?_
  have E4 := Lib.hid (E3.out.trans (q4.mono E3.out.size))
  have K14 := Lib.hid (K13.out.below q4)
  have K24 := Lib.hid (K23.out.below q4)
  clear q4 E3 K13 K23 H2' H2 y1 z1
  cases x2 with
  | false =>
    have HT : Hid (Tells P (.returned (.bool false))) := Lib.hid ⟨false, rfl, ⟨fun h => (by cases h), fun h => by have := HB2.out.2 (HI.out.1 h).2.1; cases this⟩⟩
    clear HI HB2
    go_wp2
    go_ret
    exact ⟨HT.out, E4.out⟩
  | true =>
  have HP2 := Lib.hid (HB2.out.1 rfl)
  have y2 : w4.cell? ⟨w.heap.size, 2, none⟩ = some (.int .i64 pt) := cell_heap K14.out
  have z2 : w4.cell? ⟨w.heap.size + 1, 2, none⟩ = some (.int .i64 pt2) := cell_heap K24.out
  have y3 : w4.cell? ⟨w.heap.size, 3, none⟩ = some (.int .i64 rs) := cell_heap K14.out
  have z3 : w4.cell? ⟨w.heap.size + 1, 3, none⟩ = some (.int .i64 rs2) := cell_heap K24.out
  have HT : Hid (Tells P (.returned (.bool ((pt == pt2) && (rs == rs2))))) := Lib.hid ⟨_, rfl, by
    simp only [Bool.and_eq_true, beq_iff_eq]
    rw [HI.out]
    exact ⟨fun ⟨g1, g2⟩ => ⟨HP1.out, HP2.out, g1, g2⟩, fun ⟨_, _, g1, g2⟩ => ⟨g1, g2⟩⟩⟩
  clear HB2 HI HP1 HP2
  cases hv1 : (pt == pt2)
  · rw [hv1] at HT
    simp only [Bool.false_and] at HT
    go_wp2
    go_ret
    exact ⟨HT.out, E4.out⟩
  rw [hv1] at HT
  simp only [Bool.true_and] at HT
  cases hv2 : (rs == rs2)
  all_goals
    rw [hv2] at HT
    go_wp2
    go_ret
    exact ⟨HT.out, E4.out⟩

end Go.Proofs.YthaimnmbcbhioaaDoor
