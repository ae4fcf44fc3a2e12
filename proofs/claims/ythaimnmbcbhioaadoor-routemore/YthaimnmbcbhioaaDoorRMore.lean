/-
  The walk of RouteMore: a route more that takes nothing changes nothing of where labels go; a configuration that may be may be with its rules left out.
-/
import Derived.Test.YthaimnmbcbhioaaDoorRMore1
import Derived.Test.YthaimnmbcbhioaaDoorRInts
namespace Go.Proofs.YthaimnmbcbhioaaDoor
open Go.RowKit

theorem exR_own {w : World} {B g : Nat} {row : Option Nat} {p : Int} (h : w.heap[g]? = some (.cells #[.string ⟨#[97]⟩, .int .u8 0, .string ⟨#[49]⟩, .string ⟨#[97]⟩, .int .u8 1, .string ⟨#[49]⟩] 36 (0, 0))) (hB : B ≤ g) (hr : row ≠ some g) : OwnLists w B row (exR p (some ⟨g, 0, none⟩) 2) := by
  refine ⟨⟨fun _ => ⟨g, 0, rfl, lt_of_block h, fun i hi => ?_⟩, (fun e => by cases e), fun ad e => ?_⟩, (fun hn => by cases hn), Nat.le_refl _, (fun _ => rfl), fun ad e => by cases e⟩
  · have hi2 : i < 2 := hi
    rcases (by omega : i = 0 ∨ i = 1) with rfl | rfl
    · exact ⟨cell_heap h, cell_heap h, cell_heap h⟩
    · exact ⟨cell_heap h, cell_heap h, cell_heap h⟩
  · obtain rfl : ad = ⟨g, 0, none⟩ := by injection e with e; exact e.symm
    exact ⟨hB, lt_of_block h, hr⟩

set_option maxRecDepth 20000 in
set_option maxHeartbeats 8000000 in
theorem more_walk (a : Option Addr) (c : Nat) (l : List Rt) (b : Option Addr) (d : Nat) (ls : List Rl) (pt rs : Int) (ta : Option Addr) (tc : Nat) (ps : List Pr) (par : Nat) (w : World) (htab : TabW w) (hl : RtsAt w a l) (hls : RlsAt w b ls) (okl : ∀ r ∈ l, RtOk r) (okls : ∀ r ∈ ls, RlOk r) (hn : l.length ≤ 9223372036854775807) (hm : ls.length ≤ 9223372036854775807) (hps : PairsAt w ta ps) (hpn : ps.length ≤ 9223372036854775807)
    (hz : ∀ r ∈ l, (r.ma = none → r.mc = 0) ∧ (r.ba = none → r.bc = 0)) (hzl : ∀ r ∈ ls, (r.sa = none → r.sc = 0) ∧ (r.ta = none → r.tc = 0) ∧ (r.ea = none → r.ec = 0)) (hpar : par < 256) :
    Calls Tryd.prog 4 #[.agg #[.slice a l.length c, .slice b ls.length d, .int .i64 pt, .int .i64 rs], .slice ta ps.length tc, .int .u8 (par : Int)] w fun e w' => e = .returned (.bool true) ∧ Below w.heap.size w w' := by
  have htl := htab.lt
  have kM : maxLen = 9223372036854775807 := rfl
  have HW := Lib.hid (fun u (hb : Below w.heap.size w u) => tawake_any u (htab.on hb htl))
  have HLi := Lib.hid (fun u (hb : Below w.heap.size w u) => uLight_any a c l b d ls pt rs u (hl.below hb (Nat.le_refl _)) (hls.below hb (Nat.le_refl _)) hn hm)
  have HLp := Lib.hid (fun u (hb : Below w.heap.size w u) => nLight_any none ta 0 0 tc ps u (hps.below hb (Nat.le_refl _)) (by omega) hpn)
  have HCh := Lib.hid (fun u (hb : Below w.heap.size w u) => tCheck_any a c l b d ls pt rs u (htab.on hb htl) (hl.below hb (Nat.le_refl _)) (hls.below hb (Nat.le_refl _)) okl okls hn hm)
  have HCo := Lib.hid (fun (hL : LightC l ls) u (hb : Below w.heap.size w u) => uCopy_any a c l b d ls pt rs u (hl.below hb (Nat.le_refl _)) (hls.below hb (Nat.le_refl _)) hL hz hzl)
  have HCx := Lib.hid (fun (ax : Option Addr) (cx : Nat) (lx : List Rt) (bx : Option Addr) (dx : Nat) (lsx : List Rl) u (hb : Below w.heap.size w u) (h1 : RtsAt u ax lx) (h2 : RlsAt u bx lsx) (o1 : ∀ r ∈ lx, RtOk r) (o2 : ∀ r ∈ lsx, RlOk r) (n1 : lx.length ≤ 1000) (n2 : lsx.length ≤ 1000) => tCheck_any ax cx lx bx dx lsx pt rs u (htab.on hb htl) h1 h2 o1 o2 (by omega) (by omega))
  have HWa := Lib.hid (fun (ax : Option Addr) (cx : Nat) (lx : List Rt) (tk : Nat → Bool) (htk : TkOk lx ps tk) u (hb : Below w.heap.size w u) (h1 : RtsAt u ax lx) (o1 : ∀ r ∈ lx, RtOk r) (n1 : lx.length ≤ 1000) (hpv : ∀ q ∈ ps, q.2.size ≤ 200) => tWalk_any ax cx lx ta tc ps tk htk u (htab.on hb htl) h1 (hps.below hb (Nat.le_refl _)) n1 (fun r hr => (o1 r hr).1.1) hpn (fun q hq => by have := hpv q hq; omega))
  have HR := Lib.hid (fun u (hb : Below w.heap.size w u) => hl.below hb (Nat.le_refl _))
  have HOk := Lib.hid okl
  have HOkl := Lib.hid okls
  obtain ⟨w1, hw1⟩ : ∃ x, x = w.alloc (.cells #[.slice a l.length c, .slice b ls.length d, .int .i64 pt, .int .i64 rs] 25) := ⟨_, rfl⟩
  have k1 : CfBlk w1 w.heap.size a l.length c b ls.length d pt rs := by rw [hw1]; exact heap_new w _
  have e1 : Below w.heap.size w w1 := by rw [hw1]; exact (Below.refl w.heap.size w).alloc (Nat.le_refl _) _
  have E1 := Lib.hid e1
  have K1 := Lib.hid k1
  have c0 : w1.cell? ⟨w.heap.size, 0, none⟩ = some (.slice a l.length c) := cell_heap k1
  have H1 := Lib.hid (HLi.out _ e1)
  clear hl hls okl okls hps hz hzl k1 e1 htab htl c0 HLi
  subst hw1
  go_enter Tryd.func4, Tryd.ntmps4
  go_wp2_with (go_at_call 9; refine H1.out.mono ?_; rintro e w2 ⟨⟨b2, rfl, hb2⟩, q2⟩; have HL2 := Lib.hid hb2; clear hb2; refine Hid.out ?_)
  refine Lib.hid ?_
  have E2 := Lib.hid (E1.out.trans (q2.mono E1.out.size))
  have K2 := Lib.hid (K1.out.below q2)
  clear q2 E1 K1 H1
  cases b2 with
  | false =>
    have HW2 := Lib.hid (HW.out _ E2.out)
    clear HL2 HCo HCx HWa HR
    go_wp2_with (go_at_call 10; refine HW2.out.mono ?_; rintro e w5 ⟨rfl, q5⟩)
    go_ret
    exact ⟨rfl, E2.out.trans (q5.mono E2.out.size)⟩
  | true =>
  have HLc := Lib.hid (HL2.out.1 rfl)
  have H2 := Lib.hid (HLp.out _ E2.out)
  clear HL2 HLp
  obtain ⟨B3, HB3⟩ : ∃ B : Bool, Hid (decide (LightP 0 ps) = B) := ⟨_, Lib.hid rfl⟩
  rw [HB3.out] at H2
  go_wp2_with (go_at_call 15; refine H2.out.mono ?_; rintro e w3 ⟨rfl, q3⟩; refine Hid.out ?_)
  refine Lib.hid ?_
  have E3 := Lib.hid (E2.out.trans (q3.mono E2.out.size))
  have K3 := Lib.hid (K2.out.below q3)
  clear q3 E2 K2 H2
  cases B3 with
  | false =>
    have HW2 := Lib.hid (HW.out _ E3.out)
    clear HB3 HCo HCx HWa HR
    go_wp2_with (go_at_call 10; refine HW2.out.mono ?_; rintro e w5 ⟨rfl, q5⟩)
    go_ret
    exact ⟨rfl, E3.out.trans (q5.mono E3.out.size)⟩
  | true =>
  have HPv : Hid (∀ q ∈ ps, q.2.size ≤ 200) := Lib.hid (of_decide_eq_true HB3.out).2.2
  have H3 := Lib.hid (HCh.out _ E3.out)
  have c0 : w3.cell? ⟨w.heap.size, 0, none⟩ = some (.slice a l.length c) := cell_heap K3.out
  have c1 : w3.cell? ⟨w.heap.size, 1, none⟩ = some (.slice b ls.length d) := cell_heap K3.out
  have c2 : w3.cell? ⟨w.heap.size, 2, none⟩ = some (.int .i64 pt) := cell_heap K3.out
  have c3 : w3.cell? ⟨w.heap.size, 3, none⟩ = some (.int .i64 rs) := cell_heap K3.out
  clear HB3 HCh
  obtain ⟨G, HGe⟩ : ∃ G, Hid (confE l ls pt rs = G) := ⟨_, Lib.hid rfl⟩
  rw [HGe.out] at H3
  go_wp2_with (go_at_call 16; refine H3.out.mono ?_; rintro e w4 ⟨rfl, q4⟩; refine Hid.out ?_)
  refine Lib.hid ?_
  have E4 := Lib.hid (E3.out.trans (q4.mono E3.out.size))
  have K4 := Lib.hid (K3.out.below q4)
  clear q4 E3 K3 H3 c0 c1 c2 c3
  by_cases hG0 : G = 0
  case neg =>
    have hGb : (G != 0) = true := by simpa using hG0
    have HW2 := Lib.hid (HW.out _ E4.out)
    clear HCo HCx HWa HR hG0 HGe
    go_wp2_with (go_at_call 10; refine HW2.out.mono ?_; rintro e w5 ⟨rfl, q5⟩)
    go_ret
    exact ⟨rfl, E4.out.trans (q5.mono E4.out.size)⟩
  case pos =>
  subst hG0
  have c0 : w4.cell? ⟨w.heap.size, 0, none⟩ = some (.slice a l.length c) := cell_heap K4.out
  have c1 : w4.cell? ⟨w.heap.size, 1, none⟩ = some (.slice b ls.length d) := cell_heap K4.out
  have c2 : w4.cell? ⟨w.heap.size, 2, none⟩ = some (.int .i64 pt) := cell_heap K4.out
  have c3 : w4.cell? ⟨w.heap.size, 3, none⟩ = some (.int .i64 rs) := cell_heap K4.out
  by_cases h15 : 15 < l.length
  · have h15' : (15 : Int) < (l.length : Int) := by omega
    have HW2 := Lib.hid (HW.out _ E4.out)
    clear HCo HCx HWa HR h15 HGe
    go_wp2_with (go_at_call 10; refine HW2.out.mono ?_; rintro e w5 ⟨rfl, q5⟩)
    go_ret
    exact ⟨rfl, E4.out.trans (q5.mono E4.out.size)⟩
  have h15' : ¬ (15 : Int) < (l.length : Int) := by omega
  have hpos : 0 < l.length := (conf_zero HGe.out).2.1.1.1
  have hls8 : ls.length ≤ 8 := (conf_zero HGe.out).1.2
  have H4 := Lib.hid (HCo.out HLc.out _ E4.out)
  go_wp2_with (go_at_call 11; refine H4.out.mono ?_; rintro e w5 ⟨⟨v1, v2, rfl, cpx⟩, q5⟩; refine Hid.out ?_)
  refine Lib.hid ?_
  have E5 := Lib.hid (E4.out.trans (q5.mono E4.out.size))
  have K5 := Lib.hid (K4.out.below q5)
  have hE4s := E4.out.size
  have HCw : Hid (w.heap.size < w4.heap.size) := Lib.hid (lt_of_block K4.out)
  obtain ⟨l', ls', S, cr5, hBS, hvS, cl5⟩ := cpx
  obtain ⟨ax, cx, rfl, rt5⟩ := cr5.form
  obtain ⟨bx, dx, rfl, rl5⟩ := cl5.form
  have HLl : Hid (l'.length = l.length) := Lib.hid (by simpa using congrArg List.length cr5.1)
  have HLls : Hid (ls'.length = ls.length) := Lib.hid (by simpa using congrArg List.length cl5.1)
  have HBw : Hid (w.heap.size ≤ w4.heap.size ∧ w4.heap.size + 1 + 1 + 1 ≤ w5.heap.size) := Lib.hid ⟨hE4s, by
    rcases cr5.2.1.2 with ⟨-, h0⟩ | ⟨g, cap, cur, -, hg0, hg1, -⟩
    · have := HLl.out; omega
    · have := lt_of_block hg1; omega⟩
  clear E4 K4 H4 c0 c1 c2 c3 hE4s
  obtain ⟨ir, hir, hir0, hir1, hir2⟩ := info_cut infoRt
  have c0 : w5.cell? ⟨w.heap.size, 0, none⟩ = some (.slice a l.length c) := cell_heap K5.out
  obtain ⟨p0, hp0⟩ : ∃ x, x = (w5.alloc (.cells #[.slice ax l'.length cx, .slice bx ls'.length dx, .int .i64 pt, .int .i64 rs] 25)).drew := ⟨_, rfl⟩
  have hf : Below w5.heap.size w5 p0 := by rw [hp0]; exact ((Below.refl w5.heap.size w5).alloc (Nat.le_refl _) _).drew
  have hp : w5.heap.size + 1 ≤ p0.heap.size := by subst hp0; show w5.heap.size + 1 ≤ (w5.alloc _).heap.size; simp
  have hxb : XBlk p0 w5.heap.size (.slice ax l'.length cx) (.slice bx ls'.length dx) pt rs := by rw [hp0]; exact heap_new w5 _
  have hS : XBlk p0 w5.heap.size (.slice ax l'.length cx) (.slice bx ls'.length dx) pt rs ∧ CfBlk p0 w.heap.size a l.length c b ls.length d pt rs := ⟨hxb, K5.out.below hf⟩
  have hPP : 0 ≤ (IntKind.i64.wrap (par : Int)).tmod (l.length : Int) ∧ (IntKind.i64.wrap (par : Int)).tmod (l.length : Int) < (l.length : Int) := by
    have e : IntKind.i64.wrap (par : Int) = (par : Int) := by
      simp only [IntKind.wrap, IntKind.signed, IntKind.bits]
      simp
      omega
    rw [e]
    exact ⟨Int.tmod_nonneg _ (by omega), Int.tmod_lt_of_pos _ (by omega)⟩
  have HPP := Lib.hid hPP
  clear hPP
  have hnl : l ≠ [] := fun e => by rw [e] at hpos; cases hpos
  have hCr5 := Lib.hid cr5
  have hCl5 := Lib.hid cl5
  have HvS := Lib.hid hvS
  have HBS := Lib.hid hBS
  clear hxb cr5 cl5 hvS hBS rt5 rl5 c0
  go_wp2_with fail
  refine wp_region_any (by kernel_rfl) ?_
  change wpAny _ _ _ _ _ _ _ (World.drew _)
  rw [← hp0]
  clear hp0
  refine Till.any (S := fun w' => XBlk w' w5.heap.size (.slice ax l'.length cx) (.slice bx ls'.length dx) pt rs ∧ CfBlk w' w.heap.size a l.length c b ls.length d pt rs) (z := 15) ?_
  refine Till.take (i := 0) (some 31) (v := ?_) rfl rfl (by as_aux_lemma => kernel_rfl) (by as_aux_lemma => kernel_rfl) (by as_aux_lemma => kernel_rfl) (by as_aux_lemma => kernel_rfl) (fun _ _ _ h => h) (Or.inl ⟨by kernel_rfl, ?_⟩) hS ?_
  rotate_left
  · intro w hSw; have x0 := cell_heap (j := 0) hSw.1; have x1 := cell_heap (j := 0) hSw.2; simp only [List.getElem?_toArray, List.getElem?_cons_zero] at x0 x1; go_simp
    first | done | with_reducible rfl
  refine Till.take (i := 1) (some 32) (v := ?_) rfl rfl (by as_aux_lemma => kernel_rfl) (by as_aux_lemma => kernel_rfl) (by as_aux_lemma => kernel_rfl) (by as_aux_lemma => kernel_rfl) (fun _ _ _ h => h) (Or.inl ⟨by kernel_rfl, ?_⟩) hS ?_
  rotate_left
  · intro w hSw; have x0 := cell_heap (j := 0) hSw.1; have x1 := cell_heap (j := 0) hSw.2; simp only [List.getElem?_toArray, List.getElem?_cons_zero] at x0 x1; go_simp
    first | done | with_reducible rfl
  refine Till.take (i := 2) (some 33) (v := ?_) rfl rfl (by as_aux_lemma => kernel_rfl) (by as_aux_lemma => kernel_rfl) (by as_aux_lemma => kernel_rfl) (by as_aux_lemma => kernel_rfl) (fun _ _ _ h => h) (Or.inl ⟨by kernel_rfl, ?_⟩) hS ?_
  rotate_left
  · intro w hSw; have x0 := cell_heap (j := 0) hSw.1; have x1 := cell_heap (j := 0) hSw.2; simp only [List.getElem?_toArray, List.getElem?_cons_zero] at x0 x1; go_simp
    first | done | with_reducible rfl
  refine Till.take (i := 3) (some 34) (v := ?_) rfl rfl (by as_aux_lemma => kernel_rfl) (by as_aux_lemma => kernel_rfl) (by as_aux_lemma => kernel_rfl) (by as_aux_lemma => kernel_rfl) (fun _ _ _ h => h) (Or.inl ⟨by kernel_rfl, ?_⟩) hS ?_
  rotate_left
  · intro w hSw; have x0 := cell_heap (j := 0) hSw.1; have x1 := cell_heap (j := 0) hSw.2; simp only [List.getElem?_toArray, List.getElem?_cons_zero] at x0 x1; go_simp
    first | done | with_reducible rfl
  refine Till.take (i := 4) (some 35) (v := ?_) rfl rfl (by as_aux_lemma => kernel_rfl) (by as_aux_lemma => kernel_rfl) (by as_aux_lemma => kernel_rfl) (by as_aux_lemma => kernel_rfl) (fun _ _ _ h => h) (Or.inl ⟨by kernel_rfl, ?_⟩) hS ?_
  rotate_left
  · intro w hSw; have x0 := cell_heap (j := 0) hSw.1; have x1 := cell_heap (j := 0) hSw.2; simp only [List.getElem?_toArray, List.getElem?_cons_zero] at x0 x1; go_simp
    first | done | with_reducible rfl
  refine Till.take (i := 5) (some 36) (v := ?_) rfl rfl (by as_aux_lemma => kernel_rfl) (by as_aux_lemma => kernel_rfl) (by as_aux_lemma => kernel_rfl) (by as_aux_lemma => kernel_rfl) (fun _ _ _ h => h) (Or.inl ⟨by kernel_rfl, ?_⟩) hS ?_
  rotate_left
  · intro w hSw; have x0 := cell_heap (j := 0) hSw.1; have x1 := cell_heap (j := 0) hSw.2; simp only [List.getElem?_toArray, List.getElem?_cons_zero] at x0 x1; go_simp
    first | done | with_reducible rfl
  refine Till.take (i := 6) (some 37) (v := ?_) rfl rfl (by as_aux_lemma => kernel_rfl) (by as_aux_lemma => kernel_rfl) (by as_aux_lemma => kernel_rfl) (by as_aux_lemma => kernel_rfl) (fun _ _ _ h => h) (Or.inl ⟨by kernel_rfl, ?_⟩) hS ?_
  rotate_left
  · intro w hSw; have x0 := cell_heap (j := 0) hSw.1; have x1 := cell_heap (j := 0) hSw.2; simp only [List.getElem?_toArray, List.getElem?_cons_zero] at x0 x1; go_simp
    first | done | with_reducible rfl
  refine Till.take (i := 7) (some 38) (v := ?_) rfl rfl (by as_aux_lemma => kernel_rfl) (by as_aux_lemma => kernel_rfl) (by as_aux_lemma => kernel_rfl) (by as_aux_lemma => kernel_rfl) (fun _ _ _ h => h) (Or.inl ⟨by kernel_rfl, ?_⟩) hS ?_
  rotate_left
  · intro w hSw; have x0 := cell_heap (j := 0) hSw.1; have x1 := cell_heap (j := 0) hSw.2; simp only [List.getElem?_toArray, List.getElem?_cons_zero] at x0 x1; go_simp
    first | done | with_reducible rfl
  refine Till.take (i := 8) (some 39) (v := ?_) rfl rfl (by as_aux_lemma => kernel_rfl) (by as_aux_lemma => kernel_rfl) (by as_aux_lemma => kernel_rfl) (by as_aux_lemma => kernel_rfl) (fun _ _ _ h => h) (Or.inl ⟨by kernel_rfl, ?_⟩) hS ?_
  rotate_left
  · intro w hSw; have x0 := cell_heap (j := 0) hSw.1; have x1 := cell_heap (j := 0) hSw.2; simp only [List.getElem?_toArray, List.getElem?_cons_zero] at x0 x1; go_simp
    first | done | with_reducible rfl
  refine Till.take (i := 9) (some 40) (v := ?_) rfl rfl (by as_aux_lemma => kernel_rfl) (by as_aux_lemma => kernel_rfl) (by as_aux_lemma => kernel_rfl) (by as_aux_lemma => kernel_rfl) (fun _ _ _ h => h) (Or.inl ⟨by kernel_rfl, ?_⟩) hS ?_
  rotate_left
  · intro w hSw; have x0 := cell_heap (j := 0) hSw.1; have x1 := cell_heap (j := 0) hSw.2; simp only [List.getElem?_toArray, List.getElem?_cons_zero] at x0 x1; go_simp
    first | done | with_reducible rfl
  refine Till.ready (l := [10]) (by as_aux_lemma => kernel_rfl) (by simp) ?_
  refine TillAll.cons rfl (fun K hK => ?_) TillAll.nil
  go_simp
  go_wp2_with fail
  generalize (IntKind.i64.wrap (par : Int)).tmod (l.length : Int) = P at *
  have q := (Below.refl p0.heap.size p0).alloc (Nat.le_refl _) (.cells #[.string ⟨#[97]⟩, .int .u8 0, .string ⟨#[49]⟩, .string ⟨#[97]⟩, .int .u8 1, .string ⟨#[49]⟩] 36)
  have gm : (p0.alloc (.cells #[.string ⟨#[97]⟩, .int .u8 0, .string ⟨#[49]⟩, .string ⟨#[97]⟩, .int .u8 1, .string ⟨#[49]⟩] 36)).heap[p0.heap.size]? = some (.cells #[.string ⟨#[97]⟩, .int .u8 0, .string ⟨#[49]⟩, .string ⟨#[97]⟩, .int .u8 1, .string ⟨#[49]⟩] 36 (0, 0)) := heap_new p0 _
  replace hS : XBlk (p0.alloc (.cells #[.string ⟨#[97]⟩, .int .u8 0, .string ⟨#[49]⟩, .string ⟨#[97]⟩, .int .u8 1, .string ⟨#[49]⟩] 36)) w5.heap.size (.slice ax l'.length cx) (.slice bx ls'.length dx) pt rs ∧ CfBlk (p0.alloc (.cells #[.string ⟨#[97]⟩, .int .u8 0, .string ⟨#[49]⟩, .string ⟨#[97]⟩, .int .u8 1, .string ⟨#[49]⟩] 36)) w.heap.size a l.length c b ls.length d pt rs := ⟨hS.1.below q, hS.2.below q⟩
  refine hK.out _ _ (fun _ => hS) ?_
  clear hK K
  replace hf := hf.trans (q.mono hf.size)
  have hp1 := Nat.le_trans hp q.size
  clear q
  generalize p0.alloc (.cells #[.string ⟨#[97]⟩, .int .u8 0, .string ⟨#[49]⟩, .string ⟨#[97]⟩, .int .u8 1, .string ⟨#[49]⟩] 36) = p1 at *
  refine Till.take (i := 11) (some 42) (v := ?_) rfl rfl (by as_aux_lemma => kernel_rfl) (by as_aux_lemma => kernel_rfl) (by as_aux_lemma => kernel_rfl) (by as_aux_lemma => kernel_rfl) (fun _ _ _ h => h) (Or.inl ⟨by kernel_rfl, ?_⟩) hS ?_
  rotate_left
  · intro w hSw; have x0 := cell_heap (j := 0) hSw.1; have x1 := cell_heap (j := 0) hSw.2; simp only [List.getElem?_toArray, List.getElem?_cons_zero] at x0 x1; go_simp
    first | done | with_reducible rfl
  refine Till.ready (l := [12]) (by as_aux_lemma => kernel_rfl) (by simp) ?_
  refine TillAll.cons rfl (fun K hK => ?_) TillAll.nil
  go_simp
  go_wp2_with fail
  have q := (Below.refl p1.heap.size p1).alloc (Nat.le_refl _) (.cells #[.int .i64 P, .slice (some ⟨p0.heap.size, 0, none⟩) 2 2, .bool false, .slice none 0 0, .string ⟨#[114]⟩, .int .i64 0, .int .i64 1, .int .i64 1] 33)
  have gr : (p1.alloc (.cells #[.int .i64 P, .slice (some ⟨p0.heap.size, 0, none⟩) 2 2, .bool false, .slice none 0 0, .string ⟨#[114]⟩, .int .i64 0, .int .i64 1, .int .i64 1] 33)).heap[p1.heap.size]? = some (.cells (encR (exR P (some ⟨p0.heap.size, 0, none⟩) 2)).toArray 33 (0, 0)) := heap_new p1 _
  replace gm := (q.block _ (lt_of_block gm)).trans gm
  replace hS : XBlk (p1.alloc (.cells #[.int .i64 P, .slice (some ⟨p0.heap.size, 0, none⟩) 2 2, .bool false, .slice none 0 0, .string ⟨#[114]⟩, .int .i64 0, .int .i64 1, .int .i64 1] 33)) w5.heap.size (.slice ax l'.length cx) (.slice bx ls'.length dx) pt rs ∧ CfBlk (p1.alloc (.cells #[.int .i64 P, .slice (some ⟨p0.heap.size, 0, none⟩) 2 2, .bool false, .slice none 0 0, .string ⟨#[114]⟩, .int .i64 0, .int .i64 1, .int .i64 1] 33)) w.heap.size a l.length c b ls.length d pt rs := ⟨hS.1.below q, hS.2.below q⟩
  refine hK.out _ _ (fun _ => hS) ?_
  clear hK K
  replace hf := hf.trans (q.mono hf.size)
  have hp2 := Nat.le_trans hp1 q.size
  clear q
  generalize p1.alloc (.cells #[.int .i64 P, .slice (some ⟨p0.heap.size, 0, none⟩) 2 2, .bool false, .slice none 0 0, .string ⟨#[114]⟩, .int .i64 0, .int .i64 1, .int .i64 1] 33) = p2 at *
  have h45 := q5.size
  refine Till.ready (l := [13]) (by as_aux_lemma => kernel_rfl) (by simp) ?_
  refine TillAll.cons rfl (fun K hK => ?_) TillAll.nil
  refine step_own_at rfl _ _ 22 rfl (w4.heap.size + 1 + 1 + 1) 33 ir _ 8 104 Tryd.underlying22 hir hir0 hir1 hir2 rfl (by decide) (.slice ax l'.length cx) l'.length (l'.flatMap encR) rfl (hCr5.out.below hf).2.1 ⟨p1.heap.size, 0, none⟩ 1 1 (encR (exR P (some ⟨p0.heap.size, 0, none⟩) 2)) rfl (encR_len _) (cells_of_blk gr) encR_one (by have := HLl.out; omega) (by have := HLl.out; omega) (by have := HBw.out; omega) ?_
  intro v9 p3 own9 g9 at9
  have hvb : ∀ j, (Value.slice ax l'.length cx).ownBlock = some j → w4.heap.size + 1 + 1 + 1 ≤ j ∧ j < w5.heap.size := fun j hj => hCr5.out.2.1.lt j hj
  have hCw := HCw.out
  have kp : ∀ j, (j = w5.heap.size ∨ j = w.heap.size) → p3.heap[j]? = p2.heap[j]? := fun j hj => g9.block j (by omega) (fun e => by have := hvb j e.symm; omega)
  have hS3 : XBlk (p3) w5.heap.size (.slice ax l'.length cx) (.slice bx ls'.length dx) pt rs ∧ CfBlk (p3) w.heap.size a l.length c b ls.length d pt rs := ⟨(kp _ (.inl rfl)).trans hS.1, (kp _ (.inr rfl)).trans hS.2⟩
  have cp2 := hCr5.out.below hf
  rw [show l = (l ++ [exR P none 0]).take l.length by simp] at cp2
  have cp3 := copyR_push cp2 (by simp) (r' := (exR P (some ⟨p0.heap.size, 0, none⟩) 2)) (by simp; rfl) (exR_own gm (by have := HBw.out; omega) (fun e => by have := hvb _ e; omega)) g9 own9 at9
  rw [show (l ++ [exR P none 0]).take (l.length + 1) = l ++ [exR P none 0] by rw [List.take_of_length_le]; simp] at cp3
  have hv9 : v9.ownBlock ≠ some w5.heap.size := fun e => by
    rcases at9 with h | h
    · rw [h] at e; have := hvb _ e; omega
    · rw [h] at e; injection e with e; omega
  have hlb : ∀ r ∈ l' ++ [(exR P (some ⟨p0.heap.size, 0, none⟩) 2)], (∀ ad, r.ma = some ad → ad.block ≠ w5.heap.size) ∧ ∀ ad, r.ba = some ad → ad.block ≠ w5.heap.size := fun r hr => by
    rcases List.mem_append.1 hr with hr | hr
    · exact ⟨fun ad e => by have := (((hCr5.out.2.2 r hr).1.2.2) ad e).2.1; omega, fun ad e => by have := (((hCr5.out.2.2 r hr).2.2.2.2) ad e).2.1; omega⟩
    · rw [List.mem_singleton.1 hr]
      exact ⟨fun ad e => by injection e with e; rw [← e]; show p0.heap.size ≠ _; omega, fun ad e => by cases e⟩
  have gs := grown_set p3 ⟨w5.heap.size, 0, none⟩ v9
  have cp4 := Lib.hid (cp3.kept gs hv9 hlb)
  have g54 : w5.grownBy (p3.setCell ⟨w5.heap.size, 0, none⟩ v9) (Value.slice ax l'.length cx).ownBlock := ⟨gs.os.trans (g9.os.trans hf.os), gs.tape.trans (g9.tape.trans hf.tape), gs.output.trans (g9.output.trans hf.output), Nat.le_trans hf.size (Nat.le_trans g9.size gs.size), fun j hj hne => by
    rw [gs.block j (by have := g9.size; omega) (fun e => by injection e with e; simp only at e; omega), g9.block j (by omega) hne, hf.block j hj]⟩
  have cl4 := Lib.hid (hCl5.out.grown g54 HvS.out)
  have B4 := Lib.hid (E5.out.grown g54 E5.out.size (fun j hj => by have := hvb j hj; have := HBw.out; omega))
  have X4 : Hid (XBlk (p3.setCell ⟨w5.heap.size, 0, none⟩ v9) w5.heap.size v9 (.slice bx ls'.length dx) pt rs) := Lib.hid hS3.1.set0
  have C4 : Hid (CfBlk (p3.setCell ⟨w5.heap.size, 0, none⟩ v9) w.heap.size a l.length c b ls.length d pt rs) := Lib.hid ((gs.block _ (by have := g9.size; omega) (fun e => by injection e with e; simp only at e; omega)).trans hS3.2)
  obtain ⟨n9, hn9⟩ : ∃ n, n = l'.length + 1 := ⟨_, rfl⟩
  rw [← hn9] at own9
  obtain ⟨-, h0⟩ | ⟨g, cap, cur, rfl, -⟩ := own9.2
  · omega
  clear hn9
  refine hK.out _ _ (fun _ => hS3) ?_
  clear hK K hS own9 g9 at9 kp gr gm cp2 cp3 hv9 hlb gs g54 hf hvb
  have hS := hS3
  refine Till.take (i := 14) (some 45) (v := ?_) rfl rfl (by as_aux_lemma => kernel_rfl) (by as_aux_lemma => kernel_rfl) (by as_aux_lemma => kernel_rfl) (by as_aux_lemma => kernel_rfl) (fun _ _ _ h => h) (Or.inl ⟨by kernel_rfl, ?_⟩) hS ?_
  rotate_left
  · intro w hSw; have x0 := cell_heap (j := 0) hSw.1; have x1 := cell_heap (j := 0) hSw.2; simp only [List.getElem?_toArray, List.getElem?_cons_zero] at x0 x1; go_simp
    first | done | with_reducible rfl
  refine Till.ready (l := [15]) (by as_aux_lemma => kernel_rfl) (by simp) ?_
  refine TillAll.cons rfl (fun K hK => ?_) TillAll.nil
  have z1 : p3.cell? ⟨w5.heap.size, 0, none⟩ = some (.slice ax l'.length cx) := cell_heap hS3.1
  have fz : p3.frozen? ⟨w5.heap.size, 0, none⟩ = false := frozen_of hS3.1
  clear hS hS3
  go_simp
  go_wp2_with fail
  refine hK.out _ _ (fun h => absurd rfl h) ?_
  clear hK K z1 fz
  refine Till.done (by kernel_rfl) ?_ _
  go_simp
  generalize p3.setCell ⟨w5.heap.size, 0, none⟩ (.slice (some ⟨g, 0, none⟩) n9 cap) = p4 at *
  have c0 : p4.cell? ⟨w.heap.size, 0, none⟩ = some (.slice a l.length c) := cell_heap C4.out
  have c1 : p4.cell? ⟨w.heap.size, 1, none⟩ = some (.slice b ls.length d) := cell_heap C4.out
  have c2 : p4.cell? ⟨w.heap.size, 2, none⟩ = some (.int .i64 pt) := cell_heap C4.out
  have c3 : p4.cell? ⟨w.heap.size, 3, none⟩ = some (.int .i64 rs) := cell_heap C4.out
  have H6 := Lib.hid (HCo.out HLc.out _ B4.out)
  go_wp2_with (go_at_call 11; refine H6.out.mono ?_; rintro e w10 ⟨⟨u1, u2, rfl, cpy⟩, q10⟩; refine Hid.out ?_)
  refine Lib.hid ?_
  obtain ⟨lx, hcx⟩ : ∃ lx, CopyR p4 (w4.heap.size + 1 + 1 + 1) (.slice (some ⟨g, 0, none⟩) n9 cap) (l ++ [exR P none 0]) lx := ⟨_, cp4.out⟩
  obtain ⟨ly, lsy, S2, cry, -, -, cly⟩ := cpy
  obtain ⟨ay, cy, rfl, rty⟩ := cry.form
  obtain ⟨by2, dy2, rfl, -⟩ := cly.form
  obtain ⟨agx, cgx, ev, rtx⟩ := hcx.form
  injection ev with e1 e2 e3
  subst e1 e2 e3
  obtain ⟨bgx, dgx, ev, rlx⟩ := cl4.out.form
  injection ev with e1 e2 e3
  subst e1 e3
  clear e2
  have hlxn : lx.length = l.length + 1 := by simpa using congrArg List.length hcx.1
  have hlyn : ly.length = l.length := by simpa using congrArg List.length cry.1
  have hlsn : ls'.length = ls.length := HLls.out
  have okx : ∀ r ∈ lx, RtOk r := hcx.ok (fun r hr => by
    rcases List.mem_append.1 hr with hr | hr
    · exact HOk.out r hr
    · rw [List.mem_singleton.1 hr]
      refine ⟨⟨by show (2 : Nat) ≤ maxLen; omega, fun m hm => ?_⟩, ⟨⟨Nat.zero_le _, fun s hs => by cases hs⟩, Nat.le_refl _⟩, by show (1 : Nat) ≤ maxLen; omega⟩
      simp only [exR, List.mem_cons, List.not_mem_nil, or_false] at hm
      rcases hm with rfl | rfl
      · exact ⟨by show (1 : Nat) ≤ maxLen; omega, by show (1 : Nat) ≤ maxLen; omega⟩
      · exact ⟨by show (1 : Nat) ≤ maxLen; omega, by show (1 : Nat) ≤ maxLen; omega⟩)
  have oky : ∀ r ∈ ly, RtOk r := cry.ok HOk.out
  have okxl : ∀ r ∈ ls', RlOk r := cl4.out.ok HOkl.out
  have cfx : confE lx ls' pt rs = 0 := (conf_same hcx.1 cl4.out.1).trans (conf_more HGe.out (by omega) HPP.out.1 HPP.out.2)
  have cfy : confE ly [] pt rs = 0 := (conf_same cry.1 rfl).trans (conf_bare HGe.out)
  obtain ⟨tk, htk⟩ := tk_ex l ps
  obtain ⟨tk2, htk2⟩ := tk_ex lx ps
  have hwk : walkL lx tk2 = walkL l tk := walk_plus (conf_zero HGe.out).2.1 hcx.1 htk htk2
  have hLb : (walkL l tk).length ≤ 1000000 := by
    unfold walkL
    rw [if_neg (by omega)]
    have h1 := walk_few l tk (coP l) (l.length + 1) 0 hpos
    have h2 : (l.length + 1) * l.length ≤ 16 * 15 := Nat.mul_le_mul (by omega) (by omega)
    omega
  obtain ⟨p5, hp5⟩ : ∃ x, x = (w10.alloc (.cells #[.slice ay ly.length cy, .slice none 0 0, .int .i64 pt, .int .i64 rs] 25)).drew := ⟨_, rfl⟩
  have f5 : Below w10.heap.size w10 p5 := by rw [hp5]; exact ((Below.refl w10.heap.size w10).alloc (Nat.le_refl _) _).drew
  have y5 : XBlk p5 w10.heap.size (.slice ay ly.length cy) (.slice none 0 0) pt rs := by rw [hp5]; exact heap_new w10 _
  have f45 := q10.trans (f5.mono q10.size)
  have B5 : Below w.heap.size w p5 := B4.out.trans (f45.mono B4.out.size)
  have X5 := X4.out.below f45
  have C5 := C4.out.below f45
  have rtx5 := rtx.below f45 (Nat.le_refl _)
  have rlx5 := rlx.below f45 (Nat.le_refl _)
  have rty5 := rty.below f5 (Nat.le_refl _)
  have HKx := Lib.hid (HCx.out (some ⟨g, 0, none⟩) cap lx bx dx ls' p5 B5 rtx5 rlx5 okx okxl (by omega) (by omega))
  have HKy := Lib.hid (fun u (hb : Below p5.heap.size p5 u) => HCx.out ay cy ly none 0 [] u (B5.trans (hb.mono B5.size)) (rty5.below hb (Nat.le_refl _)) (fun h => absurd h (by simp)) oky (fun r hr => by cases hr) (by omega) (by simp))
  rw [cfx] at HKx
  simp only [cfy, List.length_nil] at HKy
  have HK1 := Lib.hid (fun u (hb : Below p5.heap.size p5 u) => HWa.out a c l tk htk u (B5.trans (hb.mono B5.size)) (HR.out _ (B5.trans (hb.mono B5.size))) HOk.out (by omega) HPv.out)
  have HK2 := Lib.hid (fun u (hb : Below p5.heap.size p5 u) => HWa.out (some ⟨g, 0, none⟩) cap lx tk2 htk2 u (B5.trans (hb.mono B5.size)) (rtx5.below hb (Nat.le_refl _)) okx (by omega) HPv.out)
  rw [hwk] at HK2
  have HW5 := Lib.hid (fun u (hb : Below p5.heap.size p5 u) => HW.out u (B5.trans (hb.mono B5.size)))
  have HBB := Lib.hid B5
  have hSS : XBlk p5 w5.heap.size (.slice (some ⟨g, 0, none⟩) lx.length cap) (.slice bx ls'.length dx) pt rs ∧ XBlk p5 w10.heap.size (.slice ay ly.length cy) (.slice none 0 0) pt rs ∧ CfBlk p5 w.heap.size a l.length c b ls.length d pt rs := ⟨X5, y5, C5⟩
  have HSS := Lib.hid hSS
  generalize walkL l tk = L at *
  clear hcx cry cly rty rtx rlx hlxn hlyn hlsn okx oky okxl cfx cfy htk htk2 hwk f5 y5 f45 B5 X5 C5 rtx5 rlx5 rty5 hSS q10 c0 c1 c2 c3 H6 cp4 cl4 B4 X4 C4 HCx HWa HR HOk HOkl HCo HLc HGe HPP hCr5 hCl5 HLl HLls HvS HBS hnl hpos hls8
  go_wp2_with fail
  refine wp_region_any (by kernel_rfl) ?_
  change wpAny _ _ _ _ _ _ _ (World.drew _)
  rw [← hp5]
  clear hp5
  have hS : (fun w' : World => XBlk w' w5.heap.size (.slice (some ⟨g, 0, none⟩) lx.length cap) (.slice bx ls'.length dx) pt rs ∧ XBlk w' w10.heap.size (.slice ay ly.length cy) (.slice none 0 0) pt rs ∧ CfBlk w' w.heap.size a l.length c b ls.length d pt rs) p5 := HSS.out
  refine wpAny_of_held (S := fun w' => XBlk w' w5.heap.size (.slice (some ⟨g, 0, none⟩) lx.length cap) (.slice bx ls'.length dx) pt rs ∧ XBlk w' w10.heap.size (.slice ay ly.length cy) (.slice none 0 0) pt rs ∧ CfBlk w' w.heap.size a l.length c b ls.length d pt rs) _ _ _ _ ?_
  refine wpAnyH_take_at (i := 0) (some 49) (v := ?_) rfl rfl (by as_aux_lemma => kernel_rfl) (by as_aux_lemma => kernel_rfl) (by as_aux_lemma => kernel_rfl) (fun _ _ _ h => h) (Or.inl ⟨by kernel_rfl, ?_⟩) hS ?_
  rotate_left
  · intro w hSw; have a0 := cell_heap (j := 0) hSw.1; have a1 := cell_heap (j := 1) hSw.1; have a2 := cell_heap (j := 2) hSw.1; have a3 := cell_heap (j := 3) hSw.1; have b0 := cell_heap (j := 0) hSw.2.1; have b1 := cell_heap (j := 1) hSw.2.1; have b2 := cell_heap (j := 2) hSw.2.1; have b3 := cell_heap (j := 3) hSw.2.1; have d0 := cell_heap (j := 0) hSw.2.2; simp only [List.getElem?_toArray, List.getElem?_cons_zero, List.getElem?_cons_succ] at a0 a1 a2 a3 b0 b1 b2 b3 d0; go_simp
    first | done | with_reducible rfl
  skip
  refine wpAnyH_ready (rs := [1]) (by as_aux_lemma => kernel_rfl) (by simp) ?_
  refine AllReadyH.cons rfl (fun K hK => ?_) AllReadyH.nil
  go_simp
  go_wp2_with (go_at_call 16; refine HKx.out.mono ?_; rintro e w11 ⟨rfl, q11⟩; have t11 := q11)
  refine hK.out _ _ ?_ (fun hS => ?_)
  · exact ⟨hS.1.below q11, hS.2.1.below q11, hS.2.2.below q11⟩
  clear hK K
  refine wpAnyH_take_at (i := 2) (some 51) (v := ?_) rfl rfl (by as_aux_lemma => kernel_rfl) (by as_aux_lemma => kernel_rfl) (by as_aux_lemma => kernel_rfl) (fun _ _ _ h => h) (Or.inl ⟨by kernel_rfl, ?_⟩) hS ?_
  rotate_left
  · intro w hSw; have a0 := cell_heap (j := 0) hSw.1; have a1 := cell_heap (j := 1) hSw.1; have a2 := cell_heap (j := 2) hSw.1; have a3 := cell_heap (j := 3) hSw.1; have b0 := cell_heap (j := 0) hSw.2.1; have b1 := cell_heap (j := 1) hSw.2.1; have b2 := cell_heap (j := 2) hSw.2.1; have b3 := cell_heap (j := 3) hSw.2.1; have d0 := cell_heap (j := 0) hSw.2.2; simp only [List.getElem?_toArray, List.getElem?_cons_zero, List.getElem?_cons_succ] at a0 a1 a2 a3 b0 b1 b2 b3 d0; go_simp
    first | done | with_reducible rfl
  skip
  refine wpAnyH_take_at (i := 3) (some 52) (v := ?_) rfl rfl (by as_aux_lemma => kernel_rfl) (by as_aux_lemma => kernel_rfl) (by as_aux_lemma => kernel_rfl) (fun _ _ _ h => h) (Or.inl ⟨by kernel_rfl, ?_⟩) hS ?_
  rotate_left
  · intro w hSw; have a0 := cell_heap (j := 0) hSw.1; have a1 := cell_heap (j := 1) hSw.1; have a2 := cell_heap (j := 2) hSw.1; have a3 := cell_heap (j := 3) hSw.1; have b0 := cell_heap (j := 0) hSw.2.1; have b1 := cell_heap (j := 1) hSw.2.1; have b2 := cell_heap (j := 2) hSw.2.1; have b3 := cell_heap (j := 3) hSw.2.1; have d0 := cell_heap (j := 0) hSw.2.2; simp only [List.getElem?_toArray, List.getElem?_cons_zero, List.getElem?_cons_succ] at a0 a1 a2 a3 b0 b1 b2 b3 d0; go_simp
    first | done | with_reducible rfl
  skip
  refine wpAnyH_take_at (i := 4) (some 53) (v := ?_) rfl rfl (by as_aux_lemma => kernel_rfl) (by as_aux_lemma => kernel_rfl) (by as_aux_lemma => kernel_rfl) (fun _ _ _ h => h) (Or.inl ⟨by kernel_rfl, ?_⟩) hS ?_
  rotate_left
  · intro w hSw; have a0 := cell_heap (j := 0) hSw.1; have a1 := cell_heap (j := 1) hSw.1; have a2 := cell_heap (j := 2) hSw.1; have a3 := cell_heap (j := 3) hSw.1; have b0 := cell_heap (j := 0) hSw.2.1; have b1 := cell_heap (j := 1) hSw.2.1; have b2 := cell_heap (j := 2) hSw.2.1; have b3 := cell_heap (j := 3) hSw.2.1; have d0 := cell_heap (j := 0) hSw.2.2; simp only [List.getElem?_toArray, List.getElem?_cons_zero, List.getElem?_cons_succ] at a0 a1 a2 a3 b0 b1 b2 b3 d0; go_simp
    first | done | with_reducible rfl
  skip
  refine wpAnyH_ready (rs := [5]) (by as_aux_lemma => kernel_rfl) (by simp) ?_
  refine AllReadyH.cons rfl (fun K hK => ?_) AllReadyH.nil
  go_simp
  go_wp2_with (go_at_call 16; refine (HKy.out _ t11).mono ?_; rintro e w12 ⟨rfl, q12⟩; have t12 := t11.trans (q12.mono t11.size))
  refine hK.out _ _ ?_ (fun hS => ?_)
  · exact ⟨hS.1.below q12, hS.2.1.below q12, hS.2.2.below q12⟩
  clear hK K
  refine wpAnyH_take_at (i := 6) (some 55) (v := ?_) rfl rfl (by as_aux_lemma => kernel_rfl) (by as_aux_lemma => kernel_rfl) (by as_aux_lemma => kernel_rfl) (fun _ _ _ h => h) (Or.inl ⟨by kernel_rfl, ?_⟩) hS ?_
  rotate_left
  · intro w hSw; have a0 := cell_heap (j := 0) hSw.1; have a1 := cell_heap (j := 1) hSw.1; have a2 := cell_heap (j := 2) hSw.1; have a3 := cell_heap (j := 3) hSw.1; have b0 := cell_heap (j := 0) hSw.2.1; have b1 := cell_heap (j := 1) hSw.2.1; have b2 := cell_heap (j := 2) hSw.2.1; have b3 := cell_heap (j := 3) hSw.2.1; have d0 := cell_heap (j := 0) hSw.2.2; simp only [List.getElem?_toArray, List.getElem?_cons_zero, List.getElem?_cons_succ] at a0 a1 a2 a3 b0 b1 b2 b3 d0; go_simp
    first | done | with_reducible rfl
  skip
  refine wpAnyH_take_at (i := 7) (some 56) (v := ?_) rfl rfl (by as_aux_lemma => kernel_rfl) (by as_aux_lemma => kernel_rfl) (by as_aux_lemma => kernel_rfl) (fun _ _ _ h => h) (Or.inl ⟨by kernel_rfl, ?_⟩) hS ?_
  rotate_left
  · intro w hSw; have a0 := cell_heap (j := 0) hSw.1; have a1 := cell_heap (j := 1) hSw.1; have a2 := cell_heap (j := 2) hSw.1; have a3 := cell_heap (j := 3) hSw.1; have b0 := cell_heap (j := 0) hSw.2.1; have b1 := cell_heap (j := 1) hSw.2.1; have b2 := cell_heap (j := 2) hSw.2.1; have b3 := cell_heap (j := 3) hSw.2.1; have d0 := cell_heap (j := 0) hSw.2.2; simp only [List.getElem?_toArray, List.getElem?_cons_zero, List.getElem?_cons_succ] at a0 a1 a2 a3 b0 b1 b2 b3 d0; go_simp
    first | done | with_reducible rfl
  skip
  refine wpAnyH_take_at (i := 8) (some 57) (v := ?_) rfl rfl (by as_aux_lemma => kernel_rfl) (by as_aux_lemma => kernel_rfl) (by as_aux_lemma => kernel_rfl) (fun _ _ _ h => h) (Or.inl ⟨by kernel_rfl, ?_⟩) hS ?_
  rotate_left
  · intro w hSw; have a0 := cell_heap (j := 0) hSw.1; have a1 := cell_heap (j := 1) hSw.1; have a2 := cell_heap (j := 2) hSw.1; have a3 := cell_heap (j := 3) hSw.1; have b0 := cell_heap (j := 0) hSw.2.1; have b1 := cell_heap (j := 1) hSw.2.1; have b2 := cell_heap (j := 2) hSw.2.1; have b3 := cell_heap (j := 3) hSw.2.1; have d0 := cell_heap (j := 0) hSw.2.2; simp only [List.getElem?_toArray, List.getElem?_cons_zero, List.getElem?_cons_succ] at a0 a1 a2 a3 b0 b1 b2 b3 d0; go_simp
    first | done | with_reducible rfl
  skip
  refine wpAnyH_take_at (i := 9) (some 58) (v := ?_) rfl rfl (by as_aux_lemma => kernel_rfl) (by as_aux_lemma => kernel_rfl) (by as_aux_lemma => kernel_rfl) (fun _ _ _ h => h) (Or.inl ⟨by kernel_rfl, ?_⟩) hS ?_
  rotate_left
  · intro w hSw; have a0 := cell_heap (j := 0) hSw.1; have a1 := cell_heap (j := 1) hSw.1; have a2 := cell_heap (j := 2) hSw.1; have a3 := cell_heap (j := 3) hSw.1; have b0 := cell_heap (j := 0) hSw.2.1; have b1 := cell_heap (j := 1) hSw.2.1; have b2 := cell_heap (j := 2) hSw.2.1; have b3 := cell_heap (j := 3) hSw.2.1; have d0 := cell_heap (j := 0) hSw.2.2; simp only [List.getElem?_toArray, List.getElem?_cons_zero, List.getElem?_cons_succ] at a0 a1 a2 a3 b0 b1 b2 b3 d0; go_simp
    first | done | with_reducible rfl
  skip
  refine wpAnyH_take_at (i := 10) (some 59) (v := ?_) rfl rfl (by as_aux_lemma => kernel_rfl) (by as_aux_lemma => kernel_rfl) (by as_aux_lemma => kernel_rfl) (fun _ _ _ h => h) (Or.inl ⟨by kernel_rfl, ?_⟩) hS ?_
  rotate_left
  · intro w hSw; have a0 := cell_heap (j := 0) hSw.1; have a1 := cell_heap (j := 1) hSw.1; have a2 := cell_heap (j := 2) hSw.1; have a3 := cell_heap (j := 3) hSw.1; have b0 := cell_heap (j := 0) hSw.2.1; have b1 := cell_heap (j := 1) hSw.2.1; have b2 := cell_heap (j := 2) hSw.2.1; have b3 := cell_heap (j := 3) hSw.2.1; have d0 := cell_heap (j := 0) hSw.2.2; simp only [List.getElem?_toArray, List.getElem?_cons_zero, List.getElem?_cons_succ] at a0 a1 a2 a3 b0 b1 b2 b3 d0; go_simp
    first | done | with_reducible rfl
  skip
  refine wpAnyH_take_at (i := 11) (some 60) (v := ?_) rfl rfl (by as_aux_lemma => kernel_rfl) (by as_aux_lemma => kernel_rfl) (by as_aux_lemma => kernel_rfl) (fun _ _ _ h => h) (Or.inl ⟨by kernel_rfl, ?_⟩) hS ?_
  rotate_left
  · intro w hSw; have a0 := cell_heap (j := 0) hSw.1; have a1 := cell_heap (j := 1) hSw.1; have a2 := cell_heap (j := 2) hSw.1; have a3 := cell_heap (j := 3) hSw.1; have b0 := cell_heap (j := 0) hSw.2.1; have b1 := cell_heap (j := 1) hSw.2.1; have b2 := cell_heap (j := 2) hSw.2.1; have b3 := cell_heap (j := 3) hSw.2.1; have d0 := cell_heap (j := 0) hSw.2.2; simp only [List.getElem?_toArray, List.getElem?_cons_zero, List.getElem?_cons_succ] at a0 a1 a2 a3 b0 b1 b2 b3 d0; go_simp
    first | done | with_reducible rfl
  skip
  refine wpAnyH_take_at (i := 13) (some 62) (v := ?_) rfl rfl (by as_aux_lemma => kernel_rfl) (by as_aux_lemma => kernel_rfl) (by as_aux_lemma => kernel_rfl) (fun _ _ _ h => h) (Or.inl ⟨by kernel_rfl, ?_⟩) hS ?_
  rotate_left
  · intro w hSw; have a0 := cell_heap (j := 0) hSw.1; have a1 := cell_heap (j := 1) hSw.1; have a2 := cell_heap (j := 2) hSw.1; have a3 := cell_heap (j := 3) hSw.1; have b0 := cell_heap (j := 0) hSw.2.1; have b1 := cell_heap (j := 1) hSw.2.1; have b2 := cell_heap (j := 2) hSw.2.1; have b3 := cell_heap (j := 3) hSw.2.1; have d0 := cell_heap (j := 0) hSw.2.2; simp only [List.getElem?_toArray, List.getElem?_cons_zero, List.getElem?_cons_succ] at a0 a1 a2 a3 b0 b1 b2 b3 d0; go_simp
    first | done | with_reducible rfl
  skip
  refine wpAnyH_take_at (i := 14) (some 63) (v := ?_) rfl rfl (by as_aux_lemma => kernel_rfl) (by as_aux_lemma => kernel_rfl) (by as_aux_lemma => kernel_rfl) (fun _ _ _ h => h) (Or.inl ⟨by kernel_rfl, ?_⟩) hS ?_
  rotate_left
  · intro w hSw; have a0 := cell_heap (j := 0) hSw.1; have a1 := cell_heap (j := 1) hSw.1; have a2 := cell_heap (j := 2) hSw.1; have a3 := cell_heap (j := 3) hSw.1; have b0 := cell_heap (j := 0) hSw.2.1; have b1 := cell_heap (j := 1) hSw.2.1; have b2 := cell_heap (j := 2) hSw.2.1; have b3 := cell_heap (j := 3) hSw.2.1; have d0 := cell_heap (j := 0) hSw.2.2; simp only [List.getElem?_toArray, List.getElem?_cons_zero, List.getElem?_cons_succ] at a0 a1 a2 a3 b0 b1 b2 b3 d0; go_simp
    first | done | with_reducible rfl
  skip
  refine wpAnyH_take_at (i := 15) (some 64) (v := ?_) rfl rfl (by as_aux_lemma => kernel_rfl) (by as_aux_lemma => kernel_rfl) (by as_aux_lemma => kernel_rfl) (fun _ _ _ h => h) (Or.inl ⟨by kernel_rfl, ?_⟩) hS ?_
  rotate_left
  · intro w hSw; have a0 := cell_heap (j := 0) hSw.1; have a1 := cell_heap (j := 1) hSw.1; have a2 := cell_heap (j := 2) hSw.1; have a3 := cell_heap (j := 3) hSw.1; have b0 := cell_heap (j := 0) hSw.2.1; have b1 := cell_heap (j := 1) hSw.2.1; have b2 := cell_heap (j := 2) hSw.2.1; have b3 := cell_heap (j := 3) hSw.2.1; have d0 := cell_heap (j := 0) hSw.2.2; simp only [List.getElem?_toArray, List.getElem?_cons_zero, List.getElem?_cons_succ] at a0 a1 a2 a3 b0 b1 b2 b3 d0; go_simp
    first | done | with_reducible rfl
  skip
  refine wpAnyH_ready (rs := [12]) (by as_aux_lemma => kernel_rfl) (by simp) ?_
  refine AllReadyH.cons rfl (fun K hK => ?_) AllReadyH.nil
  go_simp
  go_wp2_with (go_at_call 18; refine (HK1.out _ t12).mono ?_; rintro e w13 ⟨⟨ia, ic, rfl, i13⟩, q13⟩; have t13 := t12.trans (q13.mono t12.size))
  refine hK.out _ _ ?_ (fun hS => ?_)
  · exact ⟨hS.1.below q13, hS.2.1.below q13, hS.2.2.below q13⟩
  clear hK K
  refine wpAnyH_ready (rs := [16]) (by as_aux_lemma => kernel_rfl) (by simp) ?_
  refine AllReadyH.cons rfl (fun K hK => ?_) AllReadyH.nil
  go_simp
  go_wp2_with (go_at_call 18; refine (HK2.out _ t13).mono ?_; rintro e w14 ⟨⟨ib, id2, rfl, i14⟩, q14⟩; have t14 := t13.trans (q14.mono t13.size))
  refine hK.out _ _ ?_ (fun hS => ?_)
  · exact ⟨hS.1.below q14, hS.2.1.below q14, hS.2.2.below q14⟩
  clear hK K
  refine wpAnyH_ready (rs := [17]) (by as_aux_lemma => kernel_rfl) (by simp) ?_
  refine AllReadyH.cons rfl (fun K hK => ?_) AllReadyH.nil
  go_simp
  go_wp2_with (go_at_call 17; refine (sameInts_any ia ic ib id2 L _ (i13.below q14 (Nat.le_refl _)) i14 (by omega)).mono ?_; rintro e w15 ⟨rfl, q15⟩; have t15 := t14.trans (q15.mono t14.size))
  refine hK.out _ _ ?_ (fun hS => ?_)
  · exact ⟨hS.1.below q15, hS.2.1.below q15, hS.2.2.below q15⟩
  clear hK K
  refine wpAnyH_take_at (i := 18) (some 67) (v := ?_) rfl rfl (by as_aux_lemma => kernel_rfl) (by as_aux_lemma => kernel_rfl) (by as_aux_lemma => kernel_rfl) (fun _ _ _ h => h) (Or.inl ⟨by kernel_rfl, ?_⟩) hS ?_
  rotate_left
  · intro w hSw; have a0 := cell_heap (j := 0) hSw.1; have a1 := cell_heap (j := 1) hSw.1; have a2 := cell_heap (j := 2) hSw.1; have a3 := cell_heap (j := 3) hSw.1; have b0 := cell_heap (j := 0) hSw.2.1; have b1 := cell_heap (j := 1) hSw.2.1; have b2 := cell_heap (j := 2) hSw.2.1; have b3 := cell_heap (j := 3) hSw.2.1; have d0 := cell_heap (j := 0) hSw.2.2; simp only [List.getElem?_toArray, List.getElem?_cons_zero, List.getElem?_cons_succ] at a0 a1 a2 a3 b0 b1 b2 b3 d0; go_simp
    first | done | with_reducible rfl
  skip
  refine wpAnyH_take_at (i := 19) (some 68) (v := ?_) rfl rfl (by as_aux_lemma => kernel_rfl) (by as_aux_lemma => kernel_rfl) (by as_aux_lemma => kernel_rfl) (fun _ _ _ h => h) (Or.inl ⟨by kernel_rfl, ?_⟩) hS ?_
  rotate_left
  · intro w hSw; have a0 := cell_heap (j := 0) hSw.1; have a1 := cell_heap (j := 1) hSw.1; have a2 := cell_heap (j := 2) hSw.1; have a3 := cell_heap (j := 3) hSw.1; have b0 := cell_heap (j := 0) hSw.2.1; have b1 := cell_heap (j := 1) hSw.2.1; have b2 := cell_heap (j := 2) hSw.2.1; have b3 := cell_heap (j := 3) hSw.2.1; have d0 := cell_heap (j := 0) hSw.2.2; simp only [List.getElem?_toArray, List.getElem?_cons_zero, List.getElem?_cons_succ] at a0 a1 a2 a3 b0 b1 b2 b3 d0; go_simp
    first | done | with_reducible rfl
  skip
  refine wpAnyH_ready (rs := [20]) (by as_aux_lemma => kernel_rfl) (by simp) ?_
  refine AllReadyH.cons rfl (fun K hK => ?_) AllReadyH.nil
  go_simp
  go_wp2_with (go_at_call 10; refine (HW5.out _ t15).mono ?_; rintro e w16 ⟨rfl, q16⟩; have t20 := t15.trans (q16.mono t15.size))
  refine hK.out _ _ ?_ (fun hS => ?_)
  · exact ⟨hS.1.below q16, hS.2.1.below q16, hS.2.2.below q16⟩
  clear hK K
  refine wpAnyH_take_at (i := 21) (some 70) (v := ?_) rfl rfl (by as_aux_lemma => kernel_rfl) (by as_aux_lemma => kernel_rfl) (by as_aux_lemma => kernel_rfl) (fun _ _ _ h => h) (Or.inl ⟨by kernel_rfl, ?_⟩) hS ?_
  rotate_left
  · intro w hSw; have a0 := cell_heap (j := 0) hSw.1; have a1 := cell_heap (j := 1) hSw.1; have a2 := cell_heap (j := 2) hSw.1; have a3 := cell_heap (j := 3) hSw.1; have b0 := cell_heap (j := 0) hSw.2.1; have b1 := cell_heap (j := 1) hSw.2.1; have b2 := cell_heap (j := 2) hSw.2.1; have b3 := cell_heap (j := 3) hSw.2.1; have d0 := cell_heap (j := 0) hSw.2.2; simp only [List.getElem?_toArray, List.getElem?_cons_zero, List.getElem?_cons_succ] at a0 a1 a2 a3 b0 b1 b2 b3 d0; go_simp
    first | done | with_reducible rfl
  skip
  refine wpAnyH_take_at (i := 22) (some 6) (v := ?_) rfl rfl (by as_aux_lemma => kernel_rfl) (by as_aux_lemma => kernel_rfl) (by as_aux_lemma => kernel_rfl) (fun _ _ _ h => h) (Or.inl ⟨by kernel_rfl, ?_⟩) hS ?_
  rotate_left
  · intro w hSw; have a0 := cell_heap (j := 0) hSw.1; have a1 := cell_heap (j := 1) hSw.1; have a2 := cell_heap (j := 2) hSw.1; have a3 := cell_heap (j := 3) hSw.1; have b0 := cell_heap (j := 0) hSw.2.1; have b1 := cell_heap (j := 1) hSw.2.1; have b2 := cell_heap (j := 2) hSw.2.1; have b3 := cell_heap (j := 3) hSw.2.1; have d0 := cell_heap (j := 0) hSw.2.2; simp only [List.getElem?_toArray, List.getElem?_cons_zero, List.getElem?_cons_succ] at a0 a1 a2 a3 b0 b1 b2 b3 d0; go_simp
    first | done | with_reducible rfl
  skip
  refine wpAnyH_done (by kernel_rfl) ?_ _
  clear hS
  go_simp
  go_wp2
  go_ret
  exact ⟨rfl, HBB.out.trans (t20.mono HBB.out.size)⟩

end Go.Proofs.YthaimnmbcbhioaaDoor
