/-
  What the reference's ends tells: the places to which a tree leads.
-/
import Derived.Test.YtlcbkhmaemoahaaDoorXDen
import Derived.Test.YtlcbkhmaemoahaaDoorXTreeSet0
import Derived.Test.YtlcbkhmaemoahaaDoorXPlaces
import Derived.Test.YtlcbkhmaemoahaaDoorXReach
import Derived.Deep.MidRow
namespace Go.Proofs.YtlcbkhmaemoahaaDoor
open Go.RowKit

theorem wpList_load_part {ops : Array Oper} {rest : List Oper} {o : Oper} {a : Act} {w : World} {Q : Exit → Act → World → Prop} (hgd : o.guard = none) (x : Operand) (ho : o.op = .load 30 x) (g off : Nat) (hx : a.eval x = .pointer (some ⟨g, off, none⟩)) (t : TV)
    (hc : ∀ j, j < 258 → w.cell? ⟨g, off + j, none⟩ = (treeL t)[j]?) (hk : wpList Tryd.prog ops Q rest (a.put o.dst (.agg (treeC t))) w) : wpList Tryd.prog ops Q (o :: rest) a w :=
  wpList_load_mid hgd 30 x ho g off hx (treeL t) _ (fun j v hv => by
    have hj : j < 258 := by have := (List.getElem?_eq_some_iff.1 hv).1; rwa [treeL_len] at this
    rw [hc j hj]; exact hv) Tryd.underlying30 rfl (by rw [treeL_len]; kernel_rfl) hk

/-- Places are told. -/
def EndsE (A : Lang) (S : List UInt8) (la : List Bool) (e : Ending) (w' : World) : Prop := ∃ a' c' lb, e = .returned (.slice a' la.length c') ∧ BoolsAt w' a' lb ∧ Outs A S la lb
/-- ends tells the places to which a tree leads. -/
def EndsAt (s : ByteArray) (t : TV) (A : Lang) (u : World) : Prop := ∀ (a : Option Addr) (c : Nat) (la : List Bool), la.length = s.size + 1 → BoolsAt u a la →
  Calls Tryd.prog 51 #[.agg (treeC t), .string s, .slice a la.length c] u fun e w' => EndsE A s.data.toList la e w' ∧ Below u.heap.size u w'

theorem part_cells {w wr : World} {ta : Option Addr} {ts : List TV} (h : TreesAt w (fun b => b < w.heap.size) ta ts.length ts) (hb : Below w.heap.size w wr) (k : Nat) (hk : k < ts.length) : ∃ g, ta = some ⟨g, 0, none⟩ ∧ ∀ j, j < 258 → wr.cell? ⟨g, k * 258 + j, none⟩ = (treeL ts[k])[j]? := by
  rcases h.2.2 with h0 | ⟨g, e, hg, hc⟩
  · omega
  · exact ⟨g, e, fun j hj => by rw [hb.cell (p := ⟨g, k * 258 + j, none⟩) hg]; exact hc k hk j hj⟩
theorem foldl_snoc' {α : Type} (f : Lang → α → Lang) (z : Lang) (l : List α) (x : α) : (l ++ [x]).foldl f z = f (l.foldl f z) x := by simp

set_option maxRecDepth 20000 in
set_option maxHeartbeats 4000000 in
theorem ends_set (s : ByteArray) (T : BSet) (ta : Option Addr) (tn tc : Nat) (w : World) (hs : s.size ≤ 1000) : EndsAt s ⟨0, T, ta, tn, tc⟩ (setL T) w := by
  intro a c la hla hba
  have hla1 : s.size < la.length := by omega
  have hla2 : la.length ≤ s.size + 1 := by omega
  have HLA := Lib.hid hla
  clear hla
  obtain ⟨i0, hi, hi0, hi1, hi2⟩ := info_parts infoBool
  have HI := Lib.hid (And.intro hi0 (And.intro hi1 hi2))
  clear hi0 hi1 hi2
  have hA := (Below.refl w.heap.size w).alloc (Nat.le_refl _) (.cells (treeC ⟨0, T, ta, tn, tc⟩) 30)
  have tb0 := TreeBlk.new w ⟨0, T, ta, tn, tc⟩
  go_enter Tryd.func51, Tryd.ntmps51
  go_wp2_with (at_make; refine Hid.out ?_)
  refine Lib.hid ?_
  refine wpList_make_full _ rfl _ _ 87 rfl w.heap.size 4 i0 (.bool false) 1 Tryd.underlying87 hi HI.out.1 HI.out.2.1 .i64 .i64 _ _ la.length rfl rfl rfl rfl (by rw [HI.out.2.2]; omega) (by unfold maxLen; omega) (by simp) ?_
  intro W hown hgrow
  rw [made_false] at hown
  have own0 : OwnBo W w.heap.size (w.heap.size + 1) la.length (List.replicate la.length false) := by
    unfold OwnBo
    simpa using hown
  have hgW : Below (w.heap.size + 1) (w.alloc (.cells (treeC ⟨0, T, ta, tn, tc⟩) 30)) W := (Below.refl _ _).grown hgrow (by simp) (by simp)
  have hbW : Below w.heap.size w W := hA.trans (hgW.mono (by omega))
  have tbW : TreeBlk W w.heap.size ⟨0, T, ta, tn, tc⟩ := (hgW.block _ (by omega)).trans tb0
  have ck : W.cell? ⟨w.heap.size, 0, none⟩ = some (.int .i64 0) := tbW.kind
  clear hown hgrow HI hi hA tb0 hgW
  have HLS : Hid (la.length = s.data.toList.length + 1) := Lib.hid (by rw [HLA.out]; simp)
  rw [← hopL_zero T s.data.toList la] at own0
  have hba0 := hba.below hbW
  go_wp2_with fail
  go_loopw [8] (fun iv wr => ∃ k : Nat, k ≤ s.size ∧ iv = .int .i64 k ∧ OwnBo wr w.heap.size (w.heap.size + 1) la.length (hopL T s.data.toList la k) ∧ TreeBlk wr w.heap.size ⟨0, T, ta, tn, tc⟩ ∧ Below w.heap.size w wr) (fun iv _ => s.size - (intOf iv).toNat)
  case atStart => exact ⟨0, Nat.zero_le _, rfl, own0, tbW, hbW⟩
  case round =>
    clear own0 tbW hbW ck hba0
    obtain ⟨k, hk, rfl, own, tb, hb⟩ := hrel
    have hbar := hba.below hb
    by_cases hlt : k < s.size
    · have hki : (k : Int) < (s.size : Int) := by omega
      obtain ⟨g, rfl, ca⟩ := hbar k (by omega)
      have cb := tb.bit s[k]
      have hc8 : (s[k].toNat : Int) < 256 := by have := s[k].toNat_lt; omega
      have hkl : (k : Int) < (la.length : Int) := by omega
      have hkl2 : (k : Int) + 1 < (la.length : Int) := by omega
      have hrd := own.reads (hopL_len _ _ _ _)
      obtain ⟨g3, e3, c3⟩ := hrd (k + 1) (by rw [hopL_len]; omega)
      obtain rfl : w.heap.size + 1 = g3 := by injection e3 with e3; injection e3
      have f3 := World.ownsRow.frozenAt own (k + 1)
      have hgl : la.getD k false = la[k] := by simp [List.getD, show k < la.length by omega]
      have hgs : s.data.toList.getD k 0 = s[k] := by
        have h2 : k < s.data.toList.length := by simpa using hlt
        rw [List.getD, List.getElem?_eq_getElem h2]
        rfl
      cases hx : la[k] with
      | true =>
        cases hy : T s[k] with
        | true =>
          have own2 := own.set (k + 1) true
          rw [hopL_hit (by rw [hgl, hgs, hx, hy]; rfl)] at own2
          have hb2 := hb.setCell (p := ⟨w.heap.size + 1, k + 1, none⟩) (by show w.heap.size ≤ w.heap.size + 1; omega) (.bool true)
          have tb2 := tb.kept (grownBy_setCell wr (w.heap.size + 1) (k + 1) (.bool true)) (by simp)
          have hy' : (⟨0, T, ta, tn, tc⟩ : TV).T s[k] = true := hy
          rw [hx] at ca
          rw [hy'] at cb
          clear hx hy hy' hgl hgs e3 own tb hb hbar hba hrd
          go_wp2
          go_roundw
          case rel => exact ⟨k + 1, by omega, by go_num, own2, tb2, hb2⟩
          case measure => simp [intOf]; omega
        | false =>
          rw [hopL_miss (by rw [hgl, hgs, hx, hy]; rfl)] at own
          have hy' : (⟨0, T, ta, tn, tc⟩ : TV).T s[k] = false := hy
          rw [hx] at ca
          rw [hy'] at cb
          clear hx hy hy' hgl hgs e3 hbar hba hrd c3 f3
          go_wp2
          go_roundw
          case rel => exact ⟨k + 1, by omega, by go_num, own, tb, hb⟩
          case measure => simp [intOf]; omega
      | false =>
        rw [hopL_miss (by rw [hgl, hx]; rfl)] at own
        rw [hx] at ca
        clear hx hgl hgs e3 hbar hba hrd c3 f3 cb
        go_wp2
        go_roundw
        case rel => exact ⟨k + 1, by omega, by go_num, own, tb, hb⟩
        case measure => simp [intOf]; omega
    · have hki : ¬ (k : Int) < (s.size : Int) := by omega
      have hkl : k = s.data.toList.length := by simp; omega
      subst hkl
      have hrd := own.reads (hopL_len _ _ _ _)
      have HO := Lib.hid (outs_set T s.data.toList la HLS.out)
      clear own
      generalize hopL T s.data.toList la s.data.toList.length = lb at *
      go_wp2
      go_ret
      exact ⟨⟨_, _, lb, rfl, hrd, HO.out⟩, hb⟩

set_option maxRecDepth 20000 in
set_option maxHeartbeats 4000000 in
theorem ends_row (s : ByteArray) (T : BSet) (ta : Option Addr) (tc : Nat) (ts : List TV) (Ls : List Lang) (w : World) (hs : s.size ≤ 1000) (hT : TreesAt w (fun b => b < w.heap.size) ta ts.length ts) (hl : ts.length = Ls.length) (hn : ts.length ≤ 9223372036854775807)
    (HP : ∀ i (h1 : i < ts.length) (h2 : i < Ls.length) u, Below w.heap.size w u → EndsAt s ts[i] Ls[i] u) : EndsAt s ⟨1, T, ta, ts.length, tc⟩ (Ls.foldl catL epsL) w := by
  have HHP := Lib.hid HP
  have HT := Lib.hid hT
  have HL := Lib.hid hl
  have hl1 : ts.length ≤ Ls.length := by omega
  clear HP hT hl
  intro a c la hla hba
  have hla1 : s.size < la.length := by omega
  have hla2 : la.length ≤ s.size + 1 := by omega
  have HLA := Lib.hid hla
  clear hla
  obtain ⟨i0, hi, hi0, hi1, hi2⟩ := info_parts infoBool
  have HI := Lib.hid (And.intro hi0 (And.intro hi1 hi2))
  clear hi0 hi1 hi2
  have hA := (Below.refl w.heap.size w).alloc (Nat.le_refl _) (.cells (treeC ⟨1, T, ta, ts.length, tc⟩) 30)
  have tb0 := TreeBlk.new w ⟨1, T, ta, ts.length, tc⟩
  go_enter Tryd.func51, Tryd.ntmps51
  go_wp2_with (at_make; refine Hid.out ?_)
  refine Lib.hid ?_
  refine wpList_make_full _ rfl _ _ 87 rfl w.heap.size 4 i0 (.bool false) 1 Tryd.underlying87 hi HI.out.1 HI.out.2.1 .i64 .i64 _ _ la.length rfl rfl rfl rfl (by rw [HI.out.2.2]; omega) (by unfold maxLen; omega) (by simp) ?_
  intro W hown hgrow
  rw [made_false] at hown
  have own0 : OwnBo W w.heap.size (w.heap.size + 1) la.length (List.replicate la.length false) := by
    unfold OwnBo
    simpa using hown
  have hgW : Below (w.heap.size + 1) (w.alloc (.cells (treeC ⟨1, T, ta, ts.length, tc⟩) 30)) W := (Below.refl _ _).grown hgrow (by simp) (by simp)
  have hbW : Below w.heap.size w W := hA.trans (hgW.mono (by omega))
  have tbW : TreeBlk W w.heap.size ⟨1, T, ta, ts.length, tc⟩ := (hgW.block _ (by omega)).trans tb0
  have ck : W.cell? ⟨w.heap.size, 0, none⟩ = some (.int .i64 1) := tbW.kind
  clear hown hgrow HI hi hA tb0 hgW
  have HLS : Hid (la.length = s.data.toList.length + 1) := Lib.hid (by rw [HLA.out]; simp)
  have hba0 := hba.below hbW
  clear own0
  go_wp2_with fail
  go_loopw [7, 9] (fun ov iv wr => ∃ (k : Nat) (a' : Option Addr) (c' : Nat) (lb : List Bool), k ≤ ts.length ∧ iv = .int .i64 k ∧ ov = .slice a' la.length c' ∧ BoolsAt wr a' lb ∧ Hid (Outs ((Ls.take k).foldl catL epsL) s.data.toList la lb) ∧ TreeBlk wr w.heap.size ⟨1, T, ta, ts.length, tc⟩ ∧ Below w.heap.size w wr) (fun _ iv _ => ts.length - (intOf iv).toNat)
  case atStart => exact ⟨0, a, c, la, Nat.zero_le _, rfl, rfl, hba0, Lib.hid (outs_eps HLS.out), tbW, hbW⟩
  case round =>
    clear hba0 tbW hbW ck hba
    obtain ⟨k, a', c', lb, hk, rfl, rfl, hbr, HO, tb, hb⟩ := hrel
    have cp : wr.cell? ⟨w.heap.size, 257, none⟩ = some (.slice ta ts.length tc) := tb.parts
    by_cases hlt : k < ts.length
    · have hki : (k : Int) < (ts.length : Int) := by omega
      obtain ⟨g, rfl, hcell⟩ := part_cells HT.out hb k hlt
      have HE := HHP.out k hlt (by omega) wr hb a' c' lb (HO.out.1.trans HLA.out) hbr
      rw [HO.out.1] at HE
      have HE' := Lib.hid HE
      have HC := Lib.hid hcell
      clear HE hcell
      go_wp2_with (first | (with_reducible change wpList Tryd.prog _ _ (_ :: _) _ _; refine wpList_load_part rfl _ rfl g (k * 258) rfl ts[k] HC.out ?_) | (go_at_call 51; refine HE'.out.mono ?_; rintro e w2 ⟨⟨a2, c2, lc, rfl, hb2, ho2⟩, q2⟩; refine Hid.out ?_))
      refine Lib.hid ?_
      have HO2 : Hid (Outs ((Ls.take (k + 1)).foldl catL epsL) s.data.toList la lc) := Lib.hid (by
        rw [List.take_succ_eq_append_getElem (by omega), foldl_snoc']
        exact outs_cat HO.out ho2)
      have HLL := Lib.hid HO.out.1
      have tb2 := tb.below q2
      have hb3 := hb.trans (q2.mono hb.size)
      clear ho2 HO HE' HC cp tb hbr hb q2
      go_wp2
      go_roundw
      case rel => exact ⟨k + 1, a2, c2, lc, by omega, by go_num, by rw [HLL.out], hb2, HO2, tb2, hb3⟩
      case measure => simp [intOf]; omega
    · have hki : ¬ (k : Int) < (ts.length : Int) := by omega
      obtain rfl : k = ts.length := by omega
      have HO2 : Hid (Outs (Ls.foldl catL epsL) s.data.toList la lb) := Lib.hid (by
        have := HO.out
        rw [HL.out, List.take_length] at this
        exact this)
      clear HO
      go_wp2
      go_ret
      exact ⟨⟨_, _, lb, rfl, hbr, HO2.out⟩, hb⟩

set_option maxRecDepth 20000 in
set_option maxHeartbeats 4000000 in
theorem ends_rows (s : ByteArray) (T : BSet) (ta : Option Addr) (tc : Nat) (ts : List TV) (Ls : List Lang) (w : World) (hs : s.size ≤ 1000) (hT : TreesAt w (fun b => b < w.heap.size) ta ts.length ts) (hl : ts.length = Ls.length) (hn : ts.length ≤ 9223372036854775807)
    (HP : ∀ i (h1 : i < ts.length) (h2 : i < Ls.length) u, Below w.heap.size w u → EndsAt s ts[i] Ls[i] u) : EndsAt s ⟨2, T, ta, ts.length, tc⟩ (Ls.foldl altL noL) w := by
  have HHP := Lib.hid HP
  have HT := Lib.hid hT
  have HL := Lib.hid hl
  have hl1 : ts.length ≤ Ls.length := by omega
  clear HP hT hl
  intro a c la hla hba
  have hla1 : s.size < la.length := by omega
  have hla2 : la.length ≤ s.size + 1 := by omega
  have HLA := Lib.hid hla
  clear hla
  obtain ⟨i0, hi, hi0, hi1, hi2⟩ := info_parts infoBool
  have HI := Lib.hid (And.intro hi0 (And.intro hi1 hi2))
  clear hi0 hi1 hi2
  have hA := (Below.refl w.heap.size w).alloc (Nat.le_refl _) (.cells (treeC ⟨2, T, ta, ts.length, tc⟩) 30)
  have tb0 := TreeBlk.new w ⟨2, T, ta, ts.length, tc⟩
  go_enter Tryd.func51, Tryd.ntmps51
  go_wp2_with (at_make; refine Hid.out ?_)
  refine Lib.hid ?_
  refine wpList_make_full _ rfl _ _ 87 rfl w.heap.size 4 i0 (.bool false) 1 Tryd.underlying87 hi HI.out.1 HI.out.2.1 .i64 .i64 _ _ la.length rfl rfl rfl rfl (by rw [HI.out.2.2]; omega) (by unfold maxLen; omega) (by simp) ?_
  intro W hown hgrow
  rw [made_false] at hown
  have own0 : OwnBo W w.heap.size (w.heap.size + 1) la.length (List.replicate la.length false) := by
    unfold OwnBo
    simpa using hown
  have hgW : Below (w.heap.size + 1) (w.alloc (.cells (treeC ⟨2, T, ta, ts.length, tc⟩) 30)) W := (Below.refl _ _).grown hgrow (by simp) (by simp)
  have hbW : Below w.heap.size w W := hA.trans (hgW.mono (by omega))
  have tbW : TreeBlk W w.heap.size ⟨2, T, ta, ts.length, tc⟩ := (hgW.block _ (by omega)).trans tb0
  have ck : W.cell? ⟨w.heap.size, 0, none⟩ = some (.int .i64 2) := tbW.kind
  clear hown hgrow HI hi hA tb0 hgW
  have HLS : Hid (la.length = s.data.toList.length + 1) := Lib.hid (by rw [HLA.out]; simp)
  have hrd0 := own0.reads (by simp)
  clear own0
  go_wp2_with fail
  go_loopw [7, 10] (fun ov iv wr => ∃ (k : Nat) (a' : Option Addr) (c' : Nat) (lb : List Bool), k ≤ ts.length ∧ iv = .int .i64 k ∧ ov = .slice a' la.length c' ∧ BoolsAt wr a' lb ∧ Hid (Outs ((Ls.take k).foldl altL noL) s.data.toList la lb) ∧ TreeBlk wr w.heap.size ⟨2, T, ta, ts.length, tc⟩ ∧ Below w.heap.size w wr) (fun _ iv _ => ts.length - (intOf iv).toNat)
  case atStart => exact ⟨0, _, _, _, Nat.zero_le _, rfl, rfl, hrd0, Lib.hid outs_no, tbW, hbW⟩
  case round =>
    clear hrd0 tbW hbW ck
    obtain ⟨k, a', c', lb, hk, rfl, rfl, hbr, HO, tb, hb⟩ := hrel
    have cp : wr.cell? ⟨w.heap.size, 257, none⟩ = some (.slice ta ts.length tc) := tb.parts
    by_cases hlt : k < ts.length
    · have hki : (k : Int) < (ts.length : Int) := by omega
      obtain ⟨g, rfl, hcell⟩ := part_cells HT.out hb k hlt
      have HE' := Lib.hid (HHP.out k hlt (by omega) wr hb a c la HLA.out (hba.below hb))
      have HC := Lib.hid hcell
      clear hcell
      go_wp2_with (first | (with_reducible change wpList Tryd.prog _ _ (_ :: _) _ _; refine wpList_load_part rfl _ rfl g (k * 258) rfl ts[k] HC.out ?_) | (go_at_call 51; refine HE'.out.mono ?_; rintro e w2 ⟨⟨a2, c2, lc, rfl, hb2, ho2⟩, q2⟩; refine Hid.out ?_))
      refine Lib.hid ?_
      have HLL := Lib.hid HO.out.1
      have HU := union_any a' a2 c' c2 lb lc w2 (hbr.below q2) hb2 (by rw [ho2.1, HLL.out]) (by rw [HLL.out]; omega)
      rw [HLL.out] at HU
      have HU' := Lib.hid HU
      clear HU
      go_wp2_with (go_at_call 68; refine HU'.out.mono ?_; rintro e w3 ⟨⟨g3, rfl, hb3⟩, q3⟩; refine Hid.out ?_)
      refine Lib.hid ?_
      have HO2 : Hid (Outs ((Ls.take (k + 1)).foldl altL noL) s.data.toList la (List.zipWith (· || ·) lb lc)) := Lib.hid (by
        rw [List.take_succ_eq_append_getElem (by omega), foldl_snoc']
        exact outs_alt HO.out ho2)
      have tb2 := (tb.below q2).below q3
      have hb4 := hb.trans (q2.mono hb.size)
      have hb5 := hb4.trans (q3.mono hb4.size)
      clear ho2 HO HE' HC cp tb hbr hb q2 q3 HU' hb2 hb4
      go_wp2
      go_roundw
      case rel => exact ⟨k + 1, _, _, _, by omega, by go_num, rfl, hb3, HO2, tb2, hb5⟩
      case measure => simp [intOf]; omega
    · have hki : ¬ (k : Int) < (ts.length : Int) := by omega
      obtain rfl : k = ts.length := by omega
      have HO2 : Hid (Outs (Ls.foldl altL noL) s.data.toList la lb) := Lib.hid (by
        have := HO.out
        rw [HL.out, List.take_length] at this
        exact this)
      clear HO
      go_wp2
      go_ret
      exact ⟨⟨_, _, lb, rfl, hbr, HO2.out⟩, hb⟩

set_option maxRecDepth 20000 in
set_option maxHeartbeats 4000000 in
theorem ends_maybe (s : ByteArray) (T : BSet) (ta : Option Addr) (tc : Nat) (p : TV) (L : Lang) (w : World) (hs : s.size ≤ 1000) (hT : TreesAt w (fun b => b < w.heap.size) ta 1 [p]) (HP : ∀ u, Below w.heap.size w u → EndsAt s p L u) : EndsAt s ⟨5, T, ta, 1, tc⟩ (optL L) w := by
  have HHP := Lib.hid HP
  obtain ⟨g, rfl, hcg⟩ : ∃ g, ta = some ⟨g, 0, none⟩ ∧ Hid (∀ wr, Below w.heap.size w wr → ∀ j, j < 258 → wr.cell? ⟨g, 0 + j, none⟩ = (treeL p)[j]?) := by
    rcases hT.2.2 with h0 | ⟨g, e, hg, hc⟩
    · cases h0
    · exact ⟨g, e, Lib.hid fun wr hb j hj => by
        rw [hb.cell (p := ⟨g, 0 + j, none⟩) hg]
        have := hc 0 (by simp) j hj
        rw [Nat.zero_mul] at this
        exact this⟩
  clear HP hT
  intro a c la hla hba
  have hla1 : s.size < la.length := by omega
  have hla2 : la.length ≤ s.size + 1 := by omega
  have HLA := Lib.hid hla
  clear hla
  obtain ⟨i0, hi, hi0, hi1, hi2⟩ := info_parts infoBool
  have HI := Lib.hid (And.intro hi0 (And.intro hi1 hi2))
  clear hi0 hi1 hi2
  have hA := (Below.refl w.heap.size w).alloc (Nat.le_refl _) (.cells (treeC ⟨5, T, some ⟨g, 0, none⟩, 1, tc⟩) 30)
  have tb0 := TreeBlk.new w ⟨5, T, some ⟨g, 0, none⟩, 1, tc⟩
  go_enter Tryd.func51, Tryd.ntmps51
  go_wp2_with (at_make; refine Hid.out ?_)
  refine Lib.hid ?_
  refine wpList_make_full _ rfl _ _ 87 rfl w.heap.size 4 i0 (.bool false) 1 Tryd.underlying87 hi HI.out.1 HI.out.2.1 .i64 .i64 _ _ la.length rfl rfl rfl rfl (by rw [HI.out.2.2]; omega) (by unfold maxLen; omega) (by simp) ?_
  intro W hown hgrow
  rw [made_false] at hown
  have own0 : OwnBo W w.heap.size (w.heap.size + 1) la.length (List.replicate la.length false) := by
    unfold OwnBo
    simpa using hown
  have hgW : Below (w.heap.size + 1) (w.alloc (.cells (treeC ⟨5, T, some ⟨g, 0, none⟩, 1, tc⟩) 30)) W := (Below.refl _ _).grown hgrow (by simp) (by simp)
  have hbW : Below w.heap.size w W := hA.trans (hgW.mono (by omega))
  have tbW : TreeBlk W w.heap.size ⟨5, T, some ⟨g, 0, none⟩, 1, tc⟩ := (hgW.block _ (by omega)).trans tb0
  have ck : W.cell? ⟨w.heap.size, 0, none⟩ = some (.int .i64 5) := tbW.kind
  clear hown hgrow HI hi hA tb0 hgW
  have HLS : Hid (la.length = s.data.toList.length + 1) := Lib.hid (by rw [HLA.out]; simp)
  clear own0
  have cp : W.cell? ⟨w.heap.size, 257, none⟩ = some (.slice (some ⟨g, 0, none⟩) 1 tc) := tbW.parts
  have HC := Lib.hid (hcg.out W hbW)
  have HE' := Lib.hid (HHP.out W hbW a c la HLA.out (hba.below hbW))
  go_wp2_with (first | (with_reducible change wpList Tryd.prog _ _ (_ :: _) _ _; refine wpList_load_part rfl _ rfl g 0 rfl p HC.out ?_) | (go_at_call 51; refine HE'.out.mono ?_; rintro e w2 ⟨⟨a2, c2, lc, rfl, hb2, ho2⟩, q2⟩; refine Hid.out ?_))
  refine Lib.hid ?_
  have hb3 := hbW.trans (q2.mono hbW.size)
  have HU' := Lib.hid (union_any a a2 c c2 la lc w2 (hba.below hb3) hb2 ho2.1 (by omega))
  have HO2 := Lib.hid (outs_opt HLS.out ho2)
  clear ho2 HE' HC cp
  go_wp2_with (go_at_call 68; refine HU'.out.mono ?_; rintro e w3 ⟨⟨g3, rfl, hb4⟩, q3⟩)
  go_ret
  exact ⟨⟨_, _, _, rfl, hb4, HO2.out⟩, hb3.trans (q3.mono hb3.size)⟩

set_option maxRecDepth 20000 in
set_option maxHeartbeats 4000000 in
theorem ends_star (s : ByteArray) (T : BSet) (ta : Option Addr) (tc : Nat) (p : TV) (L : Lang) (w : World) (hs : s.size ≤ 1000) (hT : TreesAt w (fun b => b < w.heap.size) ta 1 [p]) (HP : ∀ u, Below w.heap.size w u → EndsAt s p L u) : EndsAt s ⟨3, T, ta, 1, tc⟩ (optL (PlusL L)) w := by
  have HHP := Lib.hid HP
  obtain ⟨g, rfl, hcg⟩ : ∃ g, ta = some ⟨g, 0, none⟩ ∧ Hid (∀ wr, Below w.heap.size w wr → ∀ j, j < 258 → wr.cell? ⟨g, 0 + j, none⟩ = (treeL p)[j]?) := by
    rcases hT.2.2 with h0 | ⟨g, e, hg, hc⟩
    · cases h0
    · exact ⟨g, e, Lib.hid fun wr hb j hj => by
        rw [hb.cell (p := ⟨g, 0 + j, none⟩) hg]
        have := hc 0 (by simp) j hj
        rw [Nat.zero_mul] at this
        exact this⟩
  clear HP hT
  intro a c la hla hba
  have hla1 : s.size < la.length := by omega
  have hla2 : la.length ≤ s.size + 1 := by omega
  have HLA := Lib.hid hla
  clear hla
  obtain ⟨i0, hi, hi0, hi1, hi2⟩ := info_parts infoBool
  have HI := Lib.hid (And.intro hi0 (And.intro hi1 hi2))
  clear hi0 hi1 hi2
  have hA := (Below.refl w.heap.size w).alloc (Nat.le_refl _) (.cells (treeC ⟨3, T, some ⟨g, 0, none⟩, 1, tc⟩) 30)
  have tb0 := TreeBlk.new w ⟨3, T, some ⟨g, 0, none⟩, 1, tc⟩
  go_enter Tryd.func51, Tryd.ntmps51
  go_wp2_with (at_make; refine Hid.out ?_)
  refine Lib.hid ?_
  refine wpList_make_full _ rfl _ _ 87 rfl w.heap.size 4 i0 (.bool false) 1 Tryd.underlying87 hi HI.out.1 HI.out.2.1 .i64 .i64 _ _ la.length rfl rfl rfl rfl (by rw [HI.out.2.2]; omega) (by unfold maxLen; omega) (by simp) ?_
  intro W hown hgrow
  rw [made_false] at hown
  have own0 : OwnBo W w.heap.size (w.heap.size + 1) la.length (List.replicate la.length false) := by
    unfold OwnBo
    simpa using hown
  have hgW : Below (w.heap.size + 1) (w.alloc (.cells (treeC ⟨3, T, some ⟨g, 0, none⟩, 1, tc⟩) 30)) W := (Below.refl _ _).grown hgrow (by simp) (by simp)
  have hbW : Below w.heap.size w W := hA.trans (hgW.mono (by omega))
  have tbW : TreeBlk W w.heap.size ⟨3, T, some ⟨g, 0, none⟩, 1, tc⟩ := (hgW.block _ (by omega)).trans tb0
  have ck : W.cell? ⟨w.heap.size, 0, none⟩ = some (.int .i64 3) := tbW.kind
  clear hown hgrow HI hi hA tb0 hgW
  have HLS : Hid (la.length = s.data.toList.length + 1) := Lib.hid (by rw [HLA.out]; simp)
  clear own0
  have hba0 := hba.below hbW
  have HG0 : Hid (Grown (optL (PlusL L)) s.data.toList la la la 0) := Lib.hid (grown_star HLS.out)
  go_wp2_with fail
  go_loopw [7, 11] (fun ov iv wr => ∃ (k : Nat) (a' : Option Addr) (c' : Nat) (lb : List Bool), k ≤ s.size + 1 ∧ iv = .int .i64 k ∧ ov = .slice a' la.length c' ∧ BoolsAt wr a' lb ∧ Hid (Grown (optL (PlusL L)) s.data.toList la la lb k) ∧ TreeBlk wr w.heap.size ⟨3, T, some ⟨g, 0, none⟩, 1, tc⟩ ∧ Below w.heap.size w wr) (fun _ iv _ => s.size + 1 - (intOf iv).toNat)
  case atStart => exact ⟨0, a, c, la, Nat.zero_le _, rfl, rfl, hba0, HG0, tbW, hbW⟩
  case round =>
    clear hba0 HG0 tbW hbW ck hba
    obtain ⟨k, a', c', lb, hk, rfl, rfl, hbr, HG, tb, hb⟩ := hrel
    have cp : wr.cell? ⟨w.heap.size, 257, none⟩ = some (.slice (some ⟨g, 0, none⟩) 1 tc) := tb.parts
    by_cases hlt : k ≤ s.size
    · have hki : (k : Int) ≤ (s.size : Int) := by omega
      have HC := Lib.hid (hcg.out wr hb)
      have HE := HHP.out wr hb a' c' lb (HG.out.len.trans HLA.out) hbr
      rw [HG.out.len] at HE
      have HE' := Lib.hid HE
      have HLL := Lib.hid HG.out.len
      clear HE
      go_wp2_with (first | (with_reducible change wpList Tryd.prog _ _ (_ :: _) _ _; refine wpList_load_part rfl _ rfl g 0 rfl p HC.out ?_) | (go_at_call 51; refine HE'.out.mono ?_; rintro e w2 ⟨⟨a2, c2, lc, rfl, hb2, ho2⟩, q2⟩; refine Hid.out ?_))
      refine Lib.hid ?_
      rw [HLL.out]
      have HU := union_any a' a2 c' c2 lb lc w2 (hbr.below q2) hb2 ho2.1 (by rw [HLL.out]; omega)
      rw [HLL.out] at HU
      have HU' := Lib.hid HU
      clear HU HE' HC cp
      go_wp2_with (go_at_call 68; refine HU'.out.mono ?_; rintro e w3 ⟨⟨g3, rfl, hb3⟩, q3⟩; refine Hid.out ?_)
      refine Lib.hid ?_
      have hb4 := hb.trans (q2.mono hb.size)
      have hb5 := hb4.trans (q3.mono hb4.size)
      have hlz : (List.zipWith (· || ·) lb lc).length = lb.length := or_len ho2.1
      have hbq := (hbr.below q2).below q3
      have HS := same_any (some ⟨g3, 0, none⟩) a' la.length c' (List.zipWith (· || ·) lb lc) lb w3 hb3 hbq hlz.symm (by rw [hlz, HLL.out]; omega)
      rw [hlz, HLL.out] at HS
      have tb2 := (tb.below q2).below q3
      have HO2 := Lib.hid ho2
      clear hlz ho2 tb hbr hb hb2 q2 q3 HU' hb4
      by_cases he : List.zipWith (· || ·) lb lc = lb
      · rw [decide_eq_true he] at HS
        have HS' := Lib.hid HS
        have HF := Lib.hid (HG.out.star HLS.out (closed_same HO2.out he))
        clear HS he
        go_wp2_with (go_at_call 69; refine HS'.out.mono ?_; rintro e w4 ⟨rfl, q4⟩)
        go_ret
        exact ⟨⟨_, _, lb, rfl, hbq.below q4, HF.out⟩, hb5.trans (q4.mono hb5.size)⟩
      · rw [decide_eq_false he] at HS
        have HS' := Lib.hid HS
        have HG2 := Lib.hid (HG.out.step goes_star HLS.out HO2.out he)
        clear HS he
        go_wp2_with (go_at_call 69; refine HS'.out.mono ?_; rintro e w4 ⟨rfl, q4⟩; refine Hid.out ?_)
        refine Lib.hid ?_
        have hb6 := hb5.trans (q4.mono hb5.size)
        have tb3 := tb2.below q4
        have hb7 := hb3.below q4
        clear HS' hb5 tb2 hb3 q4 hbq
        go_wp2
        go_roundw
        case rel => exact ⟨k + 1, _, _, _, by omega, by go_num, rfl, hb7, HG2, tb3, hb6⟩
        case measure => simp [intOf]; omega
    · have hki : ¬ (k : Int) ≤ (s.size : Int) := by omega
      have HF := Lib.hid (HG.out.star HLS.out (HG.out.closed HLS.out (by omega)))
      clear HG
      go_wp2
      go_ret
      exact ⟨⟨_, _, lb, rfl, hbr, HF.out⟩, hb⟩

set_option maxRecDepth 20000 in
set_option maxHeartbeats 4000000 in
theorem ends_plus (s : ByteArray) (T : BSet) (ta : Option Addr) (tc : Nat) (p : TV) (L : Lang) (w : World) (hs : s.size ≤ 1000) (hT : TreesAt w (fun b => b < w.heap.size) ta 1 [p]) (HP : ∀ u, Below w.heap.size w u → EndsAt s p L u) : EndsAt s ⟨4, T, ta, 1, tc⟩ (PlusL L) w := by
  have HHP := Lib.hid HP
  obtain ⟨g, rfl, hcg⟩ : ∃ g, ta = some ⟨g, 0, none⟩ ∧ Hid (∀ wr, Below w.heap.size w wr → ∀ j, j < 258 → wr.cell? ⟨g, 0 + j, none⟩ = (treeL p)[j]?) := by
    rcases hT.2.2 with h0 | ⟨g, e, hg, hc⟩
    · cases h0
    · exact ⟨g, e, Lib.hid fun wr hb j hj => by
        rw [hb.cell (p := ⟨g, 0 + j, none⟩) hg]
        have := hc 0 (by simp) j hj
        rw [Nat.zero_mul] at this
        exact this⟩
  clear HP hT
  intro a c la hla hba
  have hla1 : s.size < la.length := by omega
  have hla2 : la.length ≤ s.size + 1 := by omega
  have HLA := Lib.hid hla
  clear hla
  obtain ⟨i0, hi, hi0, hi1, hi2⟩ := info_parts infoBool
  have HI := Lib.hid (And.intro hi0 (And.intro hi1 hi2))
  clear hi0 hi1 hi2
  have hA := (Below.refl w.heap.size w).alloc (Nat.le_refl _) (.cells (treeC ⟨4, T, some ⟨g, 0, none⟩, 1, tc⟩) 30)
  have tb0 := TreeBlk.new w ⟨4, T, some ⟨g, 0, none⟩, 1, tc⟩
  go_enter Tryd.func51, Tryd.ntmps51
  go_wp2_with (at_make; refine Hid.out ?_)
  refine Lib.hid ?_
  refine wpList_make_full _ rfl _ _ 87 rfl w.heap.size 4 i0 (.bool false) 1 Tryd.underlying87 hi HI.out.1 HI.out.2.1 .i64 .i64 _ _ la.length rfl rfl rfl rfl (by rw [HI.out.2.2]; omega) (by unfold maxLen; omega) (by simp) ?_
  intro W hown hgrow
  rw [made_false] at hown
  have own0 : OwnBo W w.heap.size (w.heap.size + 1) la.length (List.replicate la.length false) := by
    unfold OwnBo
    simpa using hown
  have hgW : Below (w.heap.size + 1) (w.alloc (.cells (treeC ⟨4, T, some ⟨g, 0, none⟩, 1, tc⟩) 30)) W := (Below.refl _ _).grown hgrow (by simp) (by simp)
  have hbW : Below w.heap.size w W := hA.trans (hgW.mono (by omega))
  have tbW : TreeBlk W w.heap.size ⟨4, T, some ⟨g, 0, none⟩, 1, tc⟩ := (hgW.block _ (by omega)).trans tb0
  have ck : W.cell? ⟨w.heap.size, 0, none⟩ = some (.int .i64 4) := tbW.kind
  clear hown hgrow HI hi hA tb0 hgW
  have HLS : Hid (la.length = s.data.toList.length + 1) := Lib.hid (by rw [HLA.out]; simp)
  clear own0
  have cp : W.cell? ⟨w.heap.size, 257, none⟩ = some (.slice (some ⟨g, 0, none⟩) 1 tc) := tbW.parts
  have HC := Lib.hid (hcg.out W hbW)
  have HE' := Lib.hid (HHP.out W hbW a c la HLA.out (hba.below hbW))
  go_wp2_with (first | (with_reducible change wpList Tryd.prog _ _ (_ :: _) _ _; refine wpList_load_part rfl _ rfl g 0 rfl p HC.out ?_) | (go_at_call 51; refine HE'.out.mono ?_; rintro e w2 ⟨⟨a0, c0, l0, rfl, hb0, ho0⟩, q2⟩; refine Hid.out ?_))
  refine Lib.hid ?_
  have hbX := hbW.trans (q2.mono hbW.size)
  have tbX := tbW.below q2
  have HG0 := Lib.hid (grown_plus ho0)
  have H0 := Lib.hid ho0
  clear ho0 HE' HC cp ck tbW hbW q2
  go_wp2_with fail
  go_loopw [7, 11] (fun ov iv wr => ∃ (k : Nat) (a' : Option Addr) (c' : Nat) (lb : List Bool), k ≤ s.size + 1 ∧ iv = .int .i64 k ∧ ov = .slice a' la.length c' ∧ BoolsAt wr a' lb ∧ Hid (Grown (PlusL L) s.data.toList la l0 lb k) ∧ TreeBlk wr w.heap.size ⟨4, T, some ⟨g, 0, none⟩, 1, tc⟩ ∧ Below w.heap.size w wr) (fun _ iv _ => s.size + 1 - (intOf iv).toNat)
  case atStart => exact ⟨0, a0, c0, l0, Nat.zero_le _, rfl, rfl, hb0, HG0, tbX, hbX⟩
  case round =>
    clear hbX tbX HG0 hb0
    obtain ⟨k, a', c', lb, hk, rfl, rfl, hbr, HG, tb, hb⟩ := hrel
    have cp : wr.cell? ⟨w.heap.size, 257, none⟩ = some (.slice (some ⟨g, 0, none⟩) 1 tc) := tb.parts
    by_cases hlt : k ≤ s.size
    · have hki : (k : Int) ≤ (s.size : Int) := by omega
      have HC := Lib.hid (hcg.out wr hb)
      have HE := HHP.out wr hb a' c' lb (HG.out.len.trans HLA.out) hbr
      rw [HG.out.len] at HE
      have HE' := Lib.hid HE
      have HLL := Lib.hid HG.out.len
      clear HE
      go_wp2_with (first | (with_reducible change wpList Tryd.prog _ _ (_ :: _) _ _; refine wpList_load_part rfl _ rfl g 0 rfl p HC.out ?_) | (go_at_call 51; refine HE'.out.mono ?_; rintro e w2 ⟨⟨a2, c2, lc, rfl, hb2, ho2⟩, q2⟩; refine Hid.out ?_))
      refine Lib.hid ?_
      rw [HLL.out]
      have HU := union_any a' a2 c' c2 lb lc w2 (hbr.below q2) hb2 ho2.1 (by rw [HLL.out]; omega)
      rw [HLL.out] at HU
      have HU' := Lib.hid HU
      clear HU HE' HC cp
      go_wp2_with (go_at_call 68; refine HU'.out.mono ?_; rintro e w3 ⟨⟨g3, rfl, hb3⟩, q3⟩; refine Hid.out ?_)
      refine Lib.hid ?_
      have hb4 := hb.trans (q2.mono hb.size)
      have hb5 := hb4.trans (q3.mono hb4.size)
      have hlz : (List.zipWith (· || ·) lb lc).length = lb.length := or_len ho2.1
      have hbq := (hbr.below q2).below q3
      have HS := same_any (some ⟨g3, 0, none⟩) a' la.length c' (List.zipWith (· || ·) lb lc) lb w3 hb3 hbq hlz.symm (by rw [hlz, HLL.out]; omega)
      rw [hlz, HLL.out] at HS
      have tb2 := (tb.below q2).below q3
      have HO2 := Lib.hid ho2
      clear hlz ho2 tb hbr hb hb2 q2 q3 HU' hb4
      by_cases he : List.zipWith (· || ·) lb lc = lb
      · rw [decide_eq_true he] at HS
        have HS' := Lib.hid HS
        have HF := Lib.hid (HG.out.plus H0.out (closed_same HO2.out he))
        clear HS he
        go_wp2_with (go_at_call 69; refine HS'.out.mono ?_; rintro e w4 ⟨rfl, q4⟩)
        go_ret
        exact ⟨⟨_, _, lb, rfl, hbq.below q4, HF.out⟩, hb5.trans (q4.mono hb5.size)⟩
      · rw [decide_eq_false he] at HS
        have HS' := Lib.hid HS
        have HG2 := Lib.hid (HG.out.step goes_plus HLS.out HO2.out he)
        clear HS he
        go_wp2_with (go_at_call 69; refine HS'.out.mono ?_; rintro e w4 ⟨rfl, q4⟩; refine Hid.out ?_)
        refine Lib.hid ?_
        have hb6 := hb5.trans (q4.mono hb5.size)
        have tb3 := tb2.below q4
        have hb7 := hb3.below q4
        clear HS' hb5 tb2 hb3 q4 hbq
        go_wp2
        go_roundw
        case rel => exact ⟨k + 1, _, _, _, by omega, by go_num, rfl, hb7, HG2, tb3, hb6⟩
        case measure => simp [intOf]; omega
    · have hki : ¬ (k : Int) ≤ (s.size : Int) := by omega
      have HF := Lib.hid (HG.out.plus H0.out (HG.out.closed HLS.out (by omega)))
      clear HG
      go_wp2
      go_ret
      exact ⟨⟨_, _, lb, rfl, hbr, HF.out⟩, hb⟩


end Go.Proofs.YtlcbkhmaemoahaaDoor
