/-
  The walk of RouteSames: any two configurations are told to be one as they are; a copy is one, and has lists of its own.
-/
import Derived.Test.YthaimnmbcbhioaaDoorRMore1
import Derived.Test.YthaimnmbcbhioaaDoorRSame3
import Derived.Test.YthaimnmbcbhioaaDoorRSame2
import Derived.Test.YthaimnmbcbhioaaDoorRSpoil
namespace Go.Proofs.YthaimnmbcbhioaaDoor
open Go.RowKit

theorem few_of {l : List Rt} {ls : List Rl} (h : LightC l ls) : (l.length ≤ 1000 ∧ ls.length ≤ 1000) ∧ (∀ r ∈ l, RtFew r) ∧ ∀ r ∈ ls, RuFew r := by
  obtain ⟨h1, h2, h3, h4⟩ := h
  refine ⟨⟨by omega, by omega⟩, fun r hr => ?_, fun r hr => ?_⟩
  · obtain ⟨i, hi, rfl⟩ := List.getElem_of_mem hr
    obtain ⟨x1, x2⟩ := h3 i hi
    exact ⟨by omega, by omega⟩
  · obtain ⟨i, hi, rfl⟩ := List.getElem_of_mem hr
    obtain ⟨x1, x2, x3⟩ := h4 i hi
    exact ⟨by omega, by omega, by omega⟩

theorem one_bool {A : Prop} {s t : Bool} (h1 : s = true ↔ A) (h2 : t = true ↔ A) : s = t := by cases s <;> cases t <;> simp_all
theorem light_copy {l l' : List Rt} {ls ls' : List Rl} (h : LightC l ls) (e1 : l'.map nrm = l.map nrm) (e2 : ls'.map nrmL = ls.map nrmL) : LightC l' ls' := by
  obtain ⟨h1, h2, h3, h4⟩ := h
  have n1 : l'.length = l.length := by simpa using congrArg List.length e1
  have n2 : ls'.length = ls.length := by simpa using congrArg List.length e2
  refine ⟨by omega, by omega, fun i hi => ?_, fun i hi => ?_⟩
  · have hk := congrArg (fun x => x[i]?) e1
    simp only [List.getElem?_map, List.getElem?_eq_getElem hi, List.getElem?_eq_getElem (show i < l.length by omega), Option.map_some, Option.some.injEq] at hk
    have k1 : l'[i].ms = (l[i]'(by omega)).ms := by have := congrArg Rt.ms hk; exact this
    have k2 : l'[i].bys = (l[i]'(by omega)).bys := by have := congrArg Rt.bys hk; exact this
    rw [k1, k2]
    exact h3 i (by omega)
  · have hk := congrArg (fun x => x[i]?) e2
    simp only [List.getElem?_map, List.getElem?_eq_getElem hi, List.getElem?_eq_getElem (show i < ls.length by omega), Option.map_some, Option.some.injEq] at hk
    have k1 : ls'[i].src = (ls[i]'(by omega)).src := by have := congrArg Rl.src hk; exact this
    have k2 : ls'[i].tgt = (ls[i]'(by omega)).tgt := by have := congrArg Rl.tgt hk; exact this
    have k3 : ls'[i].eqs = (ls[i]'(by omega)).eqs := by have := congrArg Rl.eqs hk; exact this
    rw [k1, k2, k3]
    exact h4 i (by omega)

set_option maxRecDepth 20000 in
set_option maxHeartbeats 8000000 in
theorem sames_walk (a : Option Addr) (c : Nat) (l : List Rt) (b : Option Addr) (d : Nat) (ls : List Rl) (pt rs : Int) (a2 : Option Addr) (c2 : Nat) (l2 : List Rt) (b2 : Option Addr) (d2 : Nat) (ls2 : List Rl) (pt2 rs2 : Int) (w : World) (htab : TabW w) (hl : RtsAt w a l) (hls : RlsAt w b ls) (hl2 : RtsAt w a2 l2) (hls2 : RlsAt w b2 ls2) (hn : l.length ≤ 9223372036854775807) (hm : ls.length ≤ 9223372036854775807) (hn2 : l2.length ≤ 9223372036854775807) (hm2 : ls2.length ≤ 9223372036854775807)
    (hz : ∀ r ∈ l, (r.ma = none → r.mc = 0) ∧ (r.ba = none → r.bc = 0)) (hzl : ∀ r ∈ ls, (r.sa = none → r.sc = 0) ∧ (r.ta = none → r.tc = 0) ∧ (r.ea = none → r.ec = 0)) (hza : a = none → c = 0) (hzb : b = none → d = 0) :
    Calls Tryd.prog 3 #[.agg #[.slice a l.length c, .slice b ls.length d, .int .i64 pt, .int .i64 rs], .agg #[.slice a2 l2.length c2, .slice b2 ls2.length d2, .int .i64 pt2, .int .i64 rs2]] w fun e w' => e = .returned (.bool true) ∧ Below w.heap.size w w' := by
  have htl := htab.lt
  have HW := Lib.hid (fun u (hb : Below w.heap.size w u) => tawake_any u (htab.on hb htl))
  have HLi := Lib.hid (fun u (hb : Below w.heap.size w u) => uLight_any a c l b d ls pt rs u (hl.below hb (Nat.le_refl _)) (hls.below hb (Nat.le_refl _)) hn hm)
  have HLj := Lib.hid (fun u (hb : Below w.heap.size w u) => uLight_any a2 c2 l2 b2 d2 ls2 pt2 rs2 u (hl2.below hb (Nat.le_refl _)) (hls2.below hb (Nat.le_refl _)) hn2 hm2)
  have HCo := Lib.hid (fun (hL : LightC l ls) u (hb : Below w.heap.size w u) => uCopy_any a c l b d ls pt rs u (hl.below hb (Nat.le_refl _)) (hls.below hb (Nat.le_refl _)) hL hz hzl)
  have HCt := Lib.hid (fun (hL : LightC l ls) u (hb : Below w.heap.size w u) => tCopy_any a c l b d ls pt rs u (hl.below hb (Nat.le_refl _)) (hls.below hb (Nat.le_refl _)) hL hz hzl hza hzb)
  have HTs := Lib.hid (fun (hL : LightC l ls) (hL2 : LightC l2 ls2) u (hb : Below w.heap.size w u) => tSame_any a c l b d ls pt rs a2 c2 l2 b2 d2 ls2 pt2 rs2 u (hl.below hb (Nat.le_refl _)) (hls.below hb (Nat.le_refl _)) (hl2.below hb (Nat.le_refl _)) (hls2.below hb (Nat.le_refl _)) (few_of hL).1.1 (few_of hL).1.2 (few_of hL2).1.1 (few_of hL2).1.2 (few_of hL).2.1 (few_of hL).2.2 (few_of hL2).2.1 (few_of hL2).2.2)
  have HUs := Lib.hid (fun (hL : LightC l ls) (hL2 : LightC l2 ls2) u (hb : Below w.heap.size w u) => uSame_any a c l b d ls pt rs a2 c2 l2 b2 d2 ls2 pt2 rs2 u (hl.below hb (Nat.le_refl _)) (hls.below hb (Nat.le_refl _)) (hl2.below hb (Nat.le_refl _)) (hls2.below hb (Nat.le_refl _)) (few_of hL2).1.1 (few_of hL2).1.2 (few_of hL).2.1 (few_of hL).2.2 (few_of hL2).2.1 (few_of hL2).2.2)
  have HTc := Lib.hid (fun (hL : LightC l ls) (ax : Option Addr) (cx : Nat) (lx : List Rt) (bx : Option Addr) (dx : Nat) (lsx : List Rl) (hX : LightC lx lsx) u (hb : Below w.heap.size w u) (h1 : RtsAt u ax lx) (h2 : RlsAt u bx lsx) => tSame_any ax cx lx bx dx lsx pt rs a c l b d ls pt rs u h1 h2 (hl.below hb (Nat.le_refl _)) (hls.below hb (Nat.le_refl _)) (few_of hX).1.1 (few_of hX).1.2 (few_of hL).1.1 (few_of hL).1.2 (few_of hX).2.1 (few_of hX).2.2 (few_of hL).2.1 (few_of hL).2.2)
  have HUc := Lib.hid (fun (hL : LightC l ls) (ax : Option Addr) (cx : Nat) (lx : List Rt) (bx : Option Addr) (dx : Nat) (lsx : List Rl) (hX : LightC lx lsx) u (hb : Below w.heap.size w u) (h1 : RtsAt u ax lx) (h2 : RlsAt u bx lsx) => uSame_any a c l b d ls pt rs ax cx lx bx dx lsx pt rs u (hl.below hb (Nat.le_refl _)) (hls.below hb (Nat.le_refl _)) h1 h2 (few_of hX).1.1 (few_of hX).1.2 (few_of hL).2.1 (few_of hL).2.2 (few_of hX).2.1 (few_of hX).2.2)
  obtain ⟨w0, hw0⟩ : ∃ x, x = w.alloc (.cells #[.slice a l.length c, .slice b ls.length d, .int .i64 pt, .int .i64 rs] 25) := ⟨_, rfl⟩
  obtain ⟨w1, hw1⟩ : ∃ x, x = w0.alloc (.cells #[.slice a2 l2.length c2, .slice b2 ls2.length d2, .int .i64 pt2, .int .i64 rs2] 25) := ⟨_, rfl⟩
  have s0 : w0.heap.size = w.heap.size + 1 := by rw [hw0]; simp
  have k0 : CfBlk w0 w.heap.size a l.length c b ls.length d pt rs := by rw [hw0]; exact heap_new w _
  have e0 : Below w.heap.size w w0 := by rw [hw0]; exact (Below.refl w.heap.size w).alloc (Nat.le_refl _) _
  have d1 : Below w0.heap.size w0 w1 := by rw [hw1]; exact (Below.refl w0.heap.size w0).alloc (Nat.le_refl _) _
  have j1 : CfBlk w1 (w.heap.size + 1) a2 l2.length c2 b2 ls2.length d2 pt2 rs2 := by rw [hw1, ← s0]; exact heap_new w0 _
  have e1 := e0.trans (d1.mono e0.size)
  have E1 := Lib.hid e1
  have K1 := Lib.hid (k0.below d1)
  have J1 := Lib.hid j1
  have H1 := Lib.hid (HLi.out _ e1)
  clear hl hls hl2 hls2 hz hzl hza hzb k0 e0 e1 d1 j1 s0 htab htl HLi
  subst hw1
  subst hw0
  go_enter Tryd.func3, Tryd.ntmps3
  go_wp2_with (go_at_call 9; refine H1.out.mono ?_; rintro e w2 ⟨⟨t2, rfl, hb2⟩, q2⟩; have HL2 := Lib.hid hb2; clear hb2; refine Hid.out ?_)
  refine Lib.hid ?_
  have E2 := Lib.hid (E1.out.trans (q2.mono E1.out.size))
  have K2 := Lib.hid (K1.out.below q2)
  have J2 := Lib.hid (J1.out.below q2)
  clear q2 E1 K1 J1 H1
  cases t2 with
  | false =>
    have HW2 := Lib.hid (HW.out _ E2.out)
    clear HL2 HCo HCt HTs HUs HTc HUc HLj
    go_wp2_with (go_at_call 10; refine HW2.out.mono ?_; rintro e w5 ⟨rfl, q5⟩)
    go_ret
    exact ⟨rfl, E2.out.trans (q5.mono E2.out.size)⟩
  | true =>
  have HLc := Lib.hid (HL2.out.1 rfl)
  have H2 := Lib.hid (HLj.out _ E2.out)
  clear HL2 HLj
  have c0 : w2.cell? ⟨w.heap.size + 1, 0, none⟩ = some (.slice a2 l2.length c2) := cell_heap J2.out
  have c1 : w2.cell? ⟨w.heap.size + 1, 1, none⟩ = some (.slice b2 ls2.length d2) := cell_heap J2.out
  have c2' : w2.cell? ⟨w.heap.size + 1, 2, none⟩ = some (.int .i64 pt2) := cell_heap J2.out
  have c3 : w2.cell? ⟨w.heap.size + 1, 3, none⟩ = some (.int .i64 rs2) := cell_heap J2.out
  go_wp2_with (go_at_call 9; refine H2.out.mono ?_; rintro e w3 ⟨⟨t3, rfl, hb3⟩, q3⟩; have HL3 := Lib.hid hb3; clear hb3; refine Hid.out ?_)
  refine Lib.hid ?_
  have E3 := Lib.hid (E2.out.trans (q3.mono E2.out.size))
  have K3 := Lib.hid (K2.out.below q3)
  have J3 := Lib.hid (J2.out.below q3)
  clear q3 E2 K2 J2 H2 c0 c1 c2' c3
  cases t3 with
  | false =>
    have HW2 := Lib.hid (HW.out _ E3.out)
    clear HL3 HCo HCt HTs HUs HTc HUc
    go_wp2_with (go_at_call 10; refine HW2.out.mono ?_; rintro e w5 ⟨rfl, q5⟩)
    go_ret
    exact ⟨rfl, E3.out.trans (q5.mono E3.out.size)⟩
  | true =>
  have HLd := Lib.hid (HL3.out.1 rfl)
  clear HL3
  have H4 := Lib.hid (HCo.out HLc.out _ E3.out)
  clear HCo
  have c0 : w3.cell? ⟨w.heap.size, 0, none⟩ = some (.slice a l.length c) := cell_heap K3.out
  have c1 : w3.cell? ⟨w.heap.size, 1, none⟩ = some (.slice b ls.length d) := cell_heap K3.out
  have c2' : w3.cell? ⟨w.heap.size, 2, none⟩ = some (.int .i64 pt) := cell_heap K3.out
  have c3 : w3.cell? ⟨w.heap.size, 3, none⟩ = some (.int .i64 rs) := cell_heap K3.out
  go_wp2_with (go_at_call 11; refine H4.out.mono ?_; rintro e w4 ⟨⟨v1, v2, rfl, hcp⟩, q4⟩; obtain ⟨l', ls', S1, cr, hS1, hS2, cl⟩ := hcp; obtain ⟨av, cv, rfl, ra⟩ := cr.form; obtain ⟨bv, dv, rfl, rb⟩ := cl.form; have HCr := Lib.hid cr.1; have HCl := Lib.hid cl.1; have HRa := Lib.hid ra; have HRb := Lib.hid rb; clear cr cl ra rb hS1 hS2; refine Hid.out ?_)
  refine Lib.hid ?_
  have E4 := Lib.hid (E3.out.trans (q4.mono E3.out.size))
  have K4 := Lib.hid (K3.out.below q4)
  have J4 := Lib.hid (J3.out.below q4)
  clear q4 E3 K3 J3 H4 c0 c1 c2' c3
  have HS4 : Hid (w.heap.size + 1 < w4.heap.size) := Lib.hid (lt_of_block J4.out)
  obtain ⟨w5, hw5⟩ : ∃ x, x = w4.alloc (.cells #[.slice av l'.length cv, .slice bv ls'.length dv, .int .i64 pt, .int .i64 rs] 25) := ⟨_, rfl⟩
  have s5 : w5.heap.size = w4.heap.size + 1 := by rw [hw5]; simp
  have q5 : Below w4.heap.size w4 w5 := by rw [hw5]; exact (Below.refl w4.heap.size w4).alloc (Nat.le_refl _) _
  have i5 : CfBlk w5 w4.heap.size av l'.length cv bv ls'.length dv pt rs := by rw [hw5]; exact heap_new w4 _
  have E5 := Lib.hid (E4.out.trans (q5.mono E4.out.size))
  have K5 := Lib.hid (K4.out.below q5)
  have J5 := Lib.hid (J4.out.below q5)
  have I5 := Lib.hid i5
  have RA5 := Lib.hid (HRa.out.below q5 (Nat.le_refl _))
  have RB5 := Lib.hid (HRb.out.below q5 (Nat.le_refl _))
  have H5 := Lib.hid (HCt.out HLc.out _ E5.out)
  have S5 := Lib.hid s5
  clear q5 i5 E4 K4 J4 HRa HRb HCt s5
  have c0 : w5.cell? ⟨w.heap.size, 0, none⟩ = some (.slice a l.length c) := cell_heap K5.out
  have c1 : w5.cell? ⟨w.heap.size, 1, none⟩ = some (.slice b ls.length d) := cell_heap K5.out
  have c2' : w5.cell? ⟨w.heap.size, 2, none⟩ = some (.int .i64 pt) := cell_heap K5.out
  have c3 : w5.cell? ⟨w.heap.size, 3, none⟩ = some (.int .i64 rs) := cell_heap K5.out
  subst hw5
  go_wp2_with (go_at_call 12; refine H5.out.mono ?_; rintro e w6 ⟨⟨v1, v2, rfl, hcp⟩, q6⟩; obtain ⟨L, Ls, S, cr, hBS, hvS, hLS, cl, hfr, hfl⟩ := hcp; obtain ⟨ax, cx, rfl, rx⟩ := cr.form; obtain ⟨bx, dx, rfl, rlx⟩ := cl.form; have HCr2 := Lib.hid cr; have HCl2 := Lib.hid cl; have HRx := Lib.hid rx; have HRlx := Lib.hid rlx; have HBS := Lib.hid hBS; have HvS := Lib.hid hvS; have HLS := Lib.hid hLS; have HFr := Lib.hid hfr; have HFl := Lib.hid hfl; clear cr cl rx rlx hBS hvS hLS hfr hfl; refine Hid.out ?_)
  refine Lib.hid ?_
  clear c0 c1 c2' c3 H5
  generalize w4.alloc (.cells #[.slice av l'.length cv, .slice bv ls'.length dv, .int .i64 pt, .int .i64 rs] 25) = w5 at *
  have E6 := Lib.hid (E5.out.trans (q6.mono E5.out.size))
  have K6 := Lib.hid (K5.out.below q6)
  have J6 := Lib.hid (J5.out.below q6)
  have Q6 := Lib.hid q6
  clear q6 J5
  have HLx : Hid (LightC L Ls) := Lib.hid (light_copy HLc.out HCr2.out.1 HCl2.out.1)
  have HLy : Hid (LightC l' ls') := Lib.hid (light_copy HLc.out HCr.out HCl.out)
  obtain ⟨w7, hw7⟩ : ∃ x, x = w6.alloc (.cells #[.slice ax L.length cx, .slice bx Ls.length dx, .int .i64 pt, .int .i64 rs] 25) := ⟨_, rfl⟩
  have q7 : Below w6.heap.size w6 w7 := by rw [hw7]; exact (Below.refl w6.heap.size w6).alloc (Nat.le_refl _) _
  have x7 : CfBlk w7 w6.heap.size ax L.length cx bx Ls.length dx pt rs := by rw [hw7]; exact heap_new w6 _
  have bb7 := E6.out.trans (q7.mono E6.out.size)
  have m2 : CfBlk w7 w.heap.size a l.length c b ls.length d pt rs ∧ CfBlk w7 (w.heap.size + 1) a2 l2.length c2 b2 ls2.length d2 pt2 rs2 ∧ CfBlk w7 w6.heap.size ax L.length cx bx Ls.length dx pt rs := ⟨K6.out.below q7, J6.out.below q7, x7⟩
  have HX7 := Lib.hid (HTc.out HLc.out ax cx L bx dx Ls HLx.out)
  have HT7 := Lib.hid (HTs.out HLc.out HLd.out)
  have HU7 := Lib.hid (HUs.out HLc.out HLd.out)
  have HR7 : Hid (∀ u, Below w7.heap.size w7 u → RtsAt u ax L ∧ RlsAt u bx Ls) := Lib.hid fun u hu => ⟨(HRx.out.below q7 (Nat.le_refl _)).below hu (Nat.le_refl _), (HRlx.out.below q7 (Nat.le_refl _)).below hu (Nat.le_refl _)⟩
  have HYes : Hid (SameC L Ls pt rs l ls pt rs) := Lib.hid ⟨HCr2.out.1, HCl2.out.1, rfl, rfl⟩
  have Q7 := Lib.hid q7
  clear q7 x7 K6 J6 HTc HTs HUs
  subst hw7
  go_wp2_with fail
  generalize w6.alloc (.cells #[.slice ax L.length cx, .slice bx Ls.length dx, .int .i64 pt, .int .i64 rs] 25) = w7 at *
  refine wp_region_any (by kernel_rfl) ?_
  change wpAny _ _ _ _ _ _ _ (World.drew _)
  have hS : (fun w' : World => CfBlk w' w.heap.size a l.length c b ls.length d pt rs ∧ CfBlk w' (w.heap.size + 1) a2 l2.length c2 b2 ls2.length d2 pt2 rs2 ∧ CfBlk w' w6.heap.size ax L.length cx bx Ls.length dx pt rs) w7.drew := m2
  refine wpAny_of_held (S := fun w' => CfBlk w' w.heap.size a l.length c b ls.length d pt rs ∧ CfBlk w' (w.heap.size + 1) a2 l2.length c2 b2 ls2.length d2 pt2 rs2 ∧ CfBlk w' w6.heap.size ax L.length cx bx Ls.length dx pt rs) _ _ _ _ ?_
  refine wpAnyH_take_at (i := 0) (some 26) (v := ?_) rfl rfl (by as_aux_lemma => kernel_rfl) (by as_aux_lemma => kernel_rfl) (by as_aux_lemma => kernel_rfl) (fun _ _ _ h => h) (Or.inl ⟨by kernel_rfl, ?_⟩) hS ?_
  rotate_left
  · intro w hSw; have x00 := cell_heap (j := 0) hSw.1; simp only [List.getElem?_toArray, List.getElem?_cons_zero] at x00; have x01 := cell_heap (j := 1) hSw.1; simp only [List.getElem?_toArray, List.getElem?_cons_zero, List.getElem?_cons_succ] at x01; have x02 := cell_heap (j := 2) hSw.1; simp only [List.getElem?_toArray, List.getElem?_cons_zero, List.getElem?_cons_succ] at x02; have x03 := cell_heap (j := 3) hSw.1; simp only [List.getElem?_toArray, List.getElem?_cons_zero, List.getElem?_cons_succ] at x03; have x10 := cell_heap (j := 0) hSw.2.1; simp only [List.getElem?_toArray, List.getElem?_cons_zero] at x10; have x11 := cell_heap (j := 1) hSw.2.1; simp only [List.getElem?_toArray, List.getElem?_cons_zero, List.getElem?_cons_succ] at x11; have x12 := cell_heap (j := 2) hSw.2.1; simp only [List.getElem?_toArray, List.getElem?_cons_zero, List.getElem?_cons_succ] at x12; have x13 := cell_heap (j := 3) hSw.2.1; simp only [List.getElem?_toArray, List.getElem?_cons_zero, List.getElem?_cons_succ] at x13; have x20 := cell_heap (j := 0) hSw.2.2; simp only [List.getElem?_toArray, List.getElem?_cons_zero] at x20; have x21 := cell_heap (j := 1) hSw.2.2; simp only [List.getElem?_toArray, List.getElem?_cons_zero, List.getElem?_cons_succ] at x21; have x22 := cell_heap (j := 2) hSw.2.2; simp only [List.getElem?_toArray, List.getElem?_cons_zero, List.getElem?_cons_succ] at x22; have x23 := cell_heap (j := 3) hSw.2.2; simp only [List.getElem?_toArray, List.getElem?_cons_zero, List.getElem?_cons_succ] at x23; go_simp
    first | done | with_reducible rfl
  skip
  refine wpAnyH_take_at (i := 1) (some 27) (v := ?_) rfl rfl (by as_aux_lemma => kernel_rfl) (by as_aux_lemma => kernel_rfl) (by as_aux_lemma => kernel_rfl) (fun _ _ _ h => h) (Or.inl ⟨by kernel_rfl, ?_⟩) hS ?_
  rotate_left
  · intro w hSw; have x00 := cell_heap (j := 0) hSw.1; simp only [List.getElem?_toArray, List.getElem?_cons_zero] at x00; have x01 := cell_heap (j := 1) hSw.1; simp only [List.getElem?_toArray, List.getElem?_cons_zero, List.getElem?_cons_succ] at x01; have x02 := cell_heap (j := 2) hSw.1; simp only [List.getElem?_toArray, List.getElem?_cons_zero, List.getElem?_cons_succ] at x02; have x03 := cell_heap (j := 3) hSw.1; simp only [List.getElem?_toArray, List.getElem?_cons_zero, List.getElem?_cons_succ] at x03; have x10 := cell_heap (j := 0) hSw.2.1; simp only [List.getElem?_toArray, List.getElem?_cons_zero] at x10; have x11 := cell_heap (j := 1) hSw.2.1; simp only [List.getElem?_toArray, List.getElem?_cons_zero, List.getElem?_cons_succ] at x11; have x12 := cell_heap (j := 2) hSw.2.1; simp only [List.getElem?_toArray, List.getElem?_cons_zero, List.getElem?_cons_succ] at x12; have x13 := cell_heap (j := 3) hSw.2.1; simp only [List.getElem?_toArray, List.getElem?_cons_zero, List.getElem?_cons_succ] at x13; have x20 := cell_heap (j := 0) hSw.2.2; simp only [List.getElem?_toArray, List.getElem?_cons_zero] at x20; have x21 := cell_heap (j := 1) hSw.2.2; simp only [List.getElem?_toArray, List.getElem?_cons_zero, List.getElem?_cons_succ] at x21; have x22 := cell_heap (j := 2) hSw.2.2; simp only [List.getElem?_toArray, List.getElem?_cons_zero, List.getElem?_cons_succ] at x22; have x23 := cell_heap (j := 3) hSw.2.2; simp only [List.getElem?_toArray, List.getElem?_cons_zero, List.getElem?_cons_succ] at x23; go_simp
    first | done | with_reducible rfl
  skip
  refine wpAnyH_take_at (i := 3) (some 29) (v := ?_) rfl rfl (by as_aux_lemma => kernel_rfl) (by as_aux_lemma => kernel_rfl) (by as_aux_lemma => kernel_rfl) (fun _ _ _ h => h) (Or.inl ⟨by kernel_rfl, ?_⟩) hS ?_
  rotate_left
  · intro w hSw; have x00 := cell_heap (j := 0) hSw.1; simp only [List.getElem?_toArray, List.getElem?_cons_zero] at x00; have x01 := cell_heap (j := 1) hSw.1; simp only [List.getElem?_toArray, List.getElem?_cons_zero, List.getElem?_cons_succ] at x01; have x02 := cell_heap (j := 2) hSw.1; simp only [List.getElem?_toArray, List.getElem?_cons_zero, List.getElem?_cons_succ] at x02; have x03 := cell_heap (j := 3) hSw.1; simp only [List.getElem?_toArray, List.getElem?_cons_zero, List.getElem?_cons_succ] at x03; have x10 := cell_heap (j := 0) hSw.2.1; simp only [List.getElem?_toArray, List.getElem?_cons_zero] at x10; have x11 := cell_heap (j := 1) hSw.2.1; simp only [List.getElem?_toArray, List.getElem?_cons_zero, List.getElem?_cons_succ] at x11; have x12 := cell_heap (j := 2) hSw.2.1; simp only [List.getElem?_toArray, List.getElem?_cons_zero, List.getElem?_cons_succ] at x12; have x13 := cell_heap (j := 3) hSw.2.1; simp only [List.getElem?_toArray, List.getElem?_cons_zero, List.getElem?_cons_succ] at x13; have x20 := cell_heap (j := 0) hSw.2.2; simp only [List.getElem?_toArray, List.getElem?_cons_zero] at x20; have x21 := cell_heap (j := 1) hSw.2.2; simp only [List.getElem?_toArray, List.getElem?_cons_zero, List.getElem?_cons_succ] at x21; have x22 := cell_heap (j := 2) hSw.2.2; simp only [List.getElem?_toArray, List.getElem?_cons_zero, List.getElem?_cons_succ] at x22; have x23 := cell_heap (j := 3) hSw.2.2; simp only [List.getElem?_toArray, List.getElem?_cons_zero, List.getElem?_cons_succ] at x23; go_simp
    first | done | with_reducible rfl
  skip
  refine wpAnyH_take_at (i := 4) (some 30) (v := ?_) rfl rfl (by as_aux_lemma => kernel_rfl) (by as_aux_lemma => kernel_rfl) (by as_aux_lemma => kernel_rfl) (fun _ _ _ h => h) (Or.inl ⟨by kernel_rfl, ?_⟩) hS ?_
  rotate_left
  · intro w hSw; have x00 := cell_heap (j := 0) hSw.1; simp only [List.getElem?_toArray, List.getElem?_cons_zero] at x00; have x01 := cell_heap (j := 1) hSw.1; simp only [List.getElem?_toArray, List.getElem?_cons_zero, List.getElem?_cons_succ] at x01; have x02 := cell_heap (j := 2) hSw.1; simp only [List.getElem?_toArray, List.getElem?_cons_zero, List.getElem?_cons_succ] at x02; have x03 := cell_heap (j := 3) hSw.1; simp only [List.getElem?_toArray, List.getElem?_cons_zero, List.getElem?_cons_succ] at x03; have x10 := cell_heap (j := 0) hSw.2.1; simp only [List.getElem?_toArray, List.getElem?_cons_zero] at x10; have x11 := cell_heap (j := 1) hSw.2.1; simp only [List.getElem?_toArray, List.getElem?_cons_zero, List.getElem?_cons_succ] at x11; have x12 := cell_heap (j := 2) hSw.2.1; simp only [List.getElem?_toArray, List.getElem?_cons_zero, List.getElem?_cons_succ] at x12; have x13 := cell_heap (j := 3) hSw.2.1; simp only [List.getElem?_toArray, List.getElem?_cons_zero, List.getElem?_cons_succ] at x13; have x20 := cell_heap (j := 0) hSw.2.2; simp only [List.getElem?_toArray, List.getElem?_cons_zero] at x20; have x21 := cell_heap (j := 1) hSw.2.2; simp only [List.getElem?_toArray, List.getElem?_cons_zero, List.getElem?_cons_succ] at x21; have x22 := cell_heap (j := 2) hSw.2.2; simp only [List.getElem?_toArray, List.getElem?_cons_zero, List.getElem?_cons_succ] at x22; have x23 := cell_heap (j := 3) hSw.2.2; simp only [List.getElem?_toArray, List.getElem?_cons_zero, List.getElem?_cons_succ] at x23; go_simp
    first | done | with_reducible rfl
  skip
  refine wpAnyH_ready (rs := [2]) (by as_aux_lemma => kernel_rfl) (by simp) ?_
  refine AllReadyH.cons rfl (fun K hK => ?_) AllReadyH.nil
  go_simp
  go_wp2_with (have y0 := bb7.drew; have g0 := (Below.refl w7.heap.size w7).drew; go_at_call 13; refine (HT7.out _ y0).mono ?_; rintro e v1 ⟨⟨t1, rfl, i1⟩, p1⟩; have y1 := y0.trans (p1.mono y0.size); have g1 := g0.trans (p1.mono g0.size); have HI1 := Lib.hid i1; clear i1)
  refine hK.out _ _ ?_ (fun hS => ?_)
  · exact ⟨hS.1.below p1, hS.2.1.below p1, hS.2.2.below p1⟩
  clear hK K
  refine wpAnyH_ready (rs := [5]) (by as_aux_lemma => kernel_rfl) (by simp) ?_
  refine AllReadyH.cons rfl (fun K hK => ?_) AllReadyH.nil
  go_simp
  go_wp2_with (go_at_call 14; refine (HU7.out _ y1).mono ?_; rintro e v2 ⟨⟨t2, rfl, i2⟩, p2⟩; have y2 := y1.trans (p2.mono y1.size); have g2 := g1.trans (p2.mono g1.size); obtain rfl := one_bool HI1.out i2; clear i2 HI1)
  refine hK.out _ _ ?_ (fun hS => ?_)
  · exact ⟨hS.1.below p2, hS.2.1.below p2, hS.2.2.below p2⟩
  clear hK K
  refine wpAnyH_take_at (i := 6) (some 32) (v := ?_) rfl rfl (by as_aux_lemma => kernel_rfl) (by as_aux_lemma => kernel_rfl) (by as_aux_lemma => kernel_rfl) (fun _ _ _ h => h) (Or.inl ⟨by kernel_rfl, ?_⟩) hS ?_
  rotate_left
  · intro w hSw; have x00 := cell_heap (j := 0) hSw.1; simp only [List.getElem?_toArray, List.getElem?_cons_zero] at x00; have x01 := cell_heap (j := 1) hSw.1; simp only [List.getElem?_toArray, List.getElem?_cons_zero, List.getElem?_cons_succ] at x01; have x02 := cell_heap (j := 2) hSw.1; simp only [List.getElem?_toArray, List.getElem?_cons_zero, List.getElem?_cons_succ] at x02; have x03 := cell_heap (j := 3) hSw.1; simp only [List.getElem?_toArray, List.getElem?_cons_zero, List.getElem?_cons_succ] at x03; have x10 := cell_heap (j := 0) hSw.2.1; simp only [List.getElem?_toArray, List.getElem?_cons_zero] at x10; have x11 := cell_heap (j := 1) hSw.2.1; simp only [List.getElem?_toArray, List.getElem?_cons_zero, List.getElem?_cons_succ] at x11; have x12 := cell_heap (j := 2) hSw.2.1; simp only [List.getElem?_toArray, List.getElem?_cons_zero, List.getElem?_cons_succ] at x12; have x13 := cell_heap (j := 3) hSw.2.1; simp only [List.getElem?_toArray, List.getElem?_cons_zero, List.getElem?_cons_succ] at x13; have x20 := cell_heap (j := 0) hSw.2.2; simp only [List.getElem?_toArray, List.getElem?_cons_zero] at x20; have x21 := cell_heap (j := 1) hSw.2.2; simp only [List.getElem?_toArray, List.getElem?_cons_zero, List.getElem?_cons_succ] at x21; have x22 := cell_heap (j := 2) hSw.2.2; simp only [List.getElem?_toArray, List.getElem?_cons_zero, List.getElem?_cons_succ] at x22; have x23 := cell_heap (j := 3) hSw.2.2; simp only [List.getElem?_toArray, List.getElem?_cons_zero, List.getElem?_cons_succ] at x23; go_simp
    first | done | with_reducible rfl
  skip
  refine wpAnyH_take_at (i := 7) (some 33) (v := ?_) rfl rfl (by as_aux_lemma => kernel_rfl) (by as_aux_lemma => kernel_rfl) (by as_aux_lemma => kernel_rfl) (fun _ _ _ h => h) (Or.inl ⟨by kernel_rfl, ?_⟩) hS ?_
  rotate_left
  · intro w hSw; have x00 := cell_heap (j := 0) hSw.1; simp only [List.getElem?_toArray, List.getElem?_cons_zero] at x00; have x01 := cell_heap (j := 1) hSw.1; simp only [List.getElem?_toArray, List.getElem?_cons_zero, List.getElem?_cons_succ] at x01; have x02 := cell_heap (j := 2) hSw.1; simp only [List.getElem?_toArray, List.getElem?_cons_zero, List.getElem?_cons_succ] at x02; have x03 := cell_heap (j := 3) hSw.1; simp only [List.getElem?_toArray, List.getElem?_cons_zero, List.getElem?_cons_succ] at x03; have x10 := cell_heap (j := 0) hSw.2.1; simp only [List.getElem?_toArray, List.getElem?_cons_zero] at x10; have x11 := cell_heap (j := 1) hSw.2.1; simp only [List.getElem?_toArray, List.getElem?_cons_zero, List.getElem?_cons_succ] at x11; have x12 := cell_heap (j := 2) hSw.2.1; simp only [List.getElem?_toArray, List.getElem?_cons_zero, List.getElem?_cons_succ] at x12; have x13 := cell_heap (j := 3) hSw.2.1; simp only [List.getElem?_toArray, List.getElem?_cons_zero, List.getElem?_cons_succ] at x13; have x20 := cell_heap (j := 0) hSw.2.2; simp only [List.getElem?_toArray, List.getElem?_cons_zero] at x20; have x21 := cell_heap (j := 1) hSw.2.2; simp only [List.getElem?_toArray, List.getElem?_cons_zero, List.getElem?_cons_succ] at x21; have x22 := cell_heap (j := 2) hSw.2.2; simp only [List.getElem?_toArray, List.getElem?_cons_zero, List.getElem?_cons_succ] at x22; have x23 := cell_heap (j := 3) hSw.2.2; simp only [List.getElem?_toArray, List.getElem?_cons_zero, List.getElem?_cons_succ] at x23; go_simp
    first | done | with_reducible rfl
  skip
  refine wpAnyH_take_at (i := 8) (some 34) (v := ?_) rfl rfl (by as_aux_lemma => kernel_rfl) (by as_aux_lemma => kernel_rfl) (by as_aux_lemma => kernel_rfl) (fun _ _ _ h => h) (Or.inl ⟨by kernel_rfl, ?_⟩) hS ?_
  rotate_left
  · intro w hSw; have x00 := cell_heap (j := 0) hSw.1; simp only [List.getElem?_toArray, List.getElem?_cons_zero] at x00; have x01 := cell_heap (j := 1) hSw.1; simp only [List.getElem?_toArray, List.getElem?_cons_zero, List.getElem?_cons_succ] at x01; have x02 := cell_heap (j := 2) hSw.1; simp only [List.getElem?_toArray, List.getElem?_cons_zero, List.getElem?_cons_succ] at x02; have x03 := cell_heap (j := 3) hSw.1; simp only [List.getElem?_toArray, List.getElem?_cons_zero, List.getElem?_cons_succ] at x03; have x10 := cell_heap (j := 0) hSw.2.1; simp only [List.getElem?_toArray, List.getElem?_cons_zero] at x10; have x11 := cell_heap (j := 1) hSw.2.1; simp only [List.getElem?_toArray, List.getElem?_cons_zero, List.getElem?_cons_succ] at x11; have x12 := cell_heap (j := 2) hSw.2.1; simp only [List.getElem?_toArray, List.getElem?_cons_zero, List.getElem?_cons_succ] at x12; have x13 := cell_heap (j := 3) hSw.2.1; simp only [List.getElem?_toArray, List.getElem?_cons_zero, List.getElem?_cons_succ] at x13; have x20 := cell_heap (j := 0) hSw.2.2; simp only [List.getElem?_toArray, List.getElem?_cons_zero] at x20; have x21 := cell_heap (j := 1) hSw.2.2; simp only [List.getElem?_toArray, List.getElem?_cons_zero, List.getElem?_cons_succ] at x21; have x22 := cell_heap (j := 2) hSw.2.2; simp only [List.getElem?_toArray, List.getElem?_cons_zero, List.getElem?_cons_succ] at x22; have x23 := cell_heap (j := 3) hSw.2.2; simp only [List.getElem?_toArray, List.getElem?_cons_zero, List.getElem?_cons_succ] at x23; go_simp
    first | done | with_reducible rfl
  skip
  refine wpAnyH_take_at (i := 9) (some 35) (v := ?_) rfl rfl (by as_aux_lemma => kernel_rfl) (by as_aux_lemma => kernel_rfl) (by as_aux_lemma => kernel_rfl) (fun _ _ _ h => h) (Or.inl ⟨by kernel_rfl, ?_⟩) hS ?_
  rotate_left
  · intro w hSw; have x00 := cell_heap (j := 0) hSw.1; simp only [List.getElem?_toArray, List.getElem?_cons_zero] at x00; have x01 := cell_heap (j := 1) hSw.1; simp only [List.getElem?_toArray, List.getElem?_cons_zero, List.getElem?_cons_succ] at x01; have x02 := cell_heap (j := 2) hSw.1; simp only [List.getElem?_toArray, List.getElem?_cons_zero, List.getElem?_cons_succ] at x02; have x03 := cell_heap (j := 3) hSw.1; simp only [List.getElem?_toArray, List.getElem?_cons_zero, List.getElem?_cons_succ] at x03; have x10 := cell_heap (j := 0) hSw.2.1; simp only [List.getElem?_toArray, List.getElem?_cons_zero] at x10; have x11 := cell_heap (j := 1) hSw.2.1; simp only [List.getElem?_toArray, List.getElem?_cons_zero, List.getElem?_cons_succ] at x11; have x12 := cell_heap (j := 2) hSw.2.1; simp only [List.getElem?_toArray, List.getElem?_cons_zero, List.getElem?_cons_succ] at x12; have x13 := cell_heap (j := 3) hSw.2.1; simp only [List.getElem?_toArray, List.getElem?_cons_zero, List.getElem?_cons_succ] at x13; have x20 := cell_heap (j := 0) hSw.2.2; simp only [List.getElem?_toArray, List.getElem?_cons_zero] at x20; have x21 := cell_heap (j := 1) hSw.2.2; simp only [List.getElem?_toArray, List.getElem?_cons_zero, List.getElem?_cons_succ] at x21; have x22 := cell_heap (j := 2) hSw.2.2; simp only [List.getElem?_toArray, List.getElem?_cons_zero, List.getElem?_cons_succ] at x22; have x23 := cell_heap (j := 3) hSw.2.2; simp only [List.getElem?_toArray, List.getElem?_cons_zero, List.getElem?_cons_succ] at x23; go_simp
    first | done | with_reducible rfl
  skip
  refine wpAnyH_ready (rs := [10]) (by as_aux_lemma => kernel_rfl) (by simp) ?_
  refine AllReadyH.cons rfl (fun K hK => ?_) AllReadyH.nil
  go_simp
  go_wp2_with (go_at_call 13; refine (HX7.out _ y2 (HR7.out _ g2).1 (HR7.out _ g2).2).mono ?_; rintro e v3 ⟨ht, p3⟩; have y3 := y2.trans (p3.mono y2.size); have g3 := g2.trans (p3.mono g2.size); obtain rfl := tells_yes ht HYes.out; clear ht)
  refine hK.out _ _ ?_ (fun hS => ?_)
  · exact ⟨hS.1.below p3, hS.2.1.below p3, hS.2.2.below p3⟩
  clear hK K
  refine wpAnyH_take_at (i := 11) (some 37) (v := ?_) rfl rfl (by as_aux_lemma => kernel_rfl) (by as_aux_lemma => kernel_rfl) (by as_aux_lemma => kernel_rfl) (fun _ _ _ h => h) (Or.inl ⟨by kernel_rfl, ?_⟩) hS ?_
  rotate_left
  · intro w hSw; have x00 := cell_heap (j := 0) hSw.1; simp only [List.getElem?_toArray, List.getElem?_cons_zero] at x00; have x01 := cell_heap (j := 1) hSw.1; simp only [List.getElem?_toArray, List.getElem?_cons_zero, List.getElem?_cons_succ] at x01; have x02 := cell_heap (j := 2) hSw.1; simp only [List.getElem?_toArray, List.getElem?_cons_zero, List.getElem?_cons_succ] at x02; have x03 := cell_heap (j := 3) hSw.1; simp only [List.getElem?_toArray, List.getElem?_cons_zero, List.getElem?_cons_succ] at x03; have x10 := cell_heap (j := 0) hSw.2.1; simp only [List.getElem?_toArray, List.getElem?_cons_zero] at x10; have x11 := cell_heap (j := 1) hSw.2.1; simp only [List.getElem?_toArray, List.getElem?_cons_zero, List.getElem?_cons_succ] at x11; have x12 := cell_heap (j := 2) hSw.2.1; simp only [List.getElem?_toArray, List.getElem?_cons_zero, List.getElem?_cons_succ] at x12; have x13 := cell_heap (j := 3) hSw.2.1; simp only [List.getElem?_toArray, List.getElem?_cons_zero, List.getElem?_cons_succ] at x13; have x20 := cell_heap (j := 0) hSw.2.2; simp only [List.getElem?_toArray, List.getElem?_cons_zero] at x20; have x21 := cell_heap (j := 1) hSw.2.2; simp only [List.getElem?_toArray, List.getElem?_cons_zero, List.getElem?_cons_succ] at x21; have x22 := cell_heap (j := 2) hSw.2.2; simp only [List.getElem?_toArray, List.getElem?_cons_zero, List.getElem?_cons_succ] at x22; have x23 := cell_heap (j := 3) hSw.2.2; simp only [List.getElem?_toArray, List.getElem?_cons_zero, List.getElem?_cons_succ] at x23; go_simp
    first | done | with_reducible rfl
  skip
  refine wpAnyH_take_at (i := 12) (some 7) (v := ?_) rfl rfl (by as_aux_lemma => kernel_rfl) (by as_aux_lemma => kernel_rfl) (by as_aux_lemma => kernel_rfl) (fun _ _ _ h => h) (Or.inl ⟨by kernel_rfl, ?_⟩) hS ?_
  rotate_left
  · intro w hSw; have x00 := cell_heap (j := 0) hSw.1; simp only [List.getElem?_toArray, List.getElem?_cons_zero] at x00; have x01 := cell_heap (j := 1) hSw.1; simp only [List.getElem?_toArray, List.getElem?_cons_zero, List.getElem?_cons_succ] at x01; have x02 := cell_heap (j := 2) hSw.1; simp only [List.getElem?_toArray, List.getElem?_cons_zero, List.getElem?_cons_succ] at x02; have x03 := cell_heap (j := 3) hSw.1; simp only [List.getElem?_toArray, List.getElem?_cons_zero, List.getElem?_cons_succ] at x03; have x10 := cell_heap (j := 0) hSw.2.1; simp only [List.getElem?_toArray, List.getElem?_cons_zero] at x10; have x11 := cell_heap (j := 1) hSw.2.1; simp only [List.getElem?_toArray, List.getElem?_cons_zero, List.getElem?_cons_succ] at x11; have x12 := cell_heap (j := 2) hSw.2.1; simp only [List.getElem?_toArray, List.getElem?_cons_zero, List.getElem?_cons_succ] at x12; have x13 := cell_heap (j := 3) hSw.2.1; simp only [List.getElem?_toArray, List.getElem?_cons_zero, List.getElem?_cons_succ] at x13; have x20 := cell_heap (j := 0) hSw.2.2; simp only [List.getElem?_toArray, List.getElem?_cons_zero] at x20; have x21 := cell_heap (j := 1) hSw.2.2; simp only [List.getElem?_toArray, List.getElem?_cons_zero, List.getElem?_cons_succ] at x21; have x22 := cell_heap (j := 2) hSw.2.2; simp only [List.getElem?_toArray, List.getElem?_cons_zero, List.getElem?_cons_succ] at x22; have x23 := cell_heap (j := 3) hSw.2.2; simp only [List.getElem?_toArray, List.getElem?_cons_zero, List.getElem?_cons_succ] at x23; go_simp
    first | done | with_reducible rfl
  skip
  refine wpAnyH_done (by kernel_rfl) ?_ _
  obtain ⟨S2, hS2, hS3, hsp⟩ := Spoilt.start (w0 := w5) Q6.out HCr2.out HvS.out HLS.out HCl2.out HFr.out HFl.out (Q7.out.trans (g3.mono Q7.out.size)) hS.2.2
  have HSp0 := Lib.hid hsp
  have HC2 := Lib.hid hS2
  have HC3 : Hid (∀ p, S2 ≤ p → p < w6.heap.size → w5.heap.size + 1 + 1 ≤ p) := Lib.hid fun p h1 h2 => Nat.le_trans HBS.out (hS3 p h1 h2)
  have hn20 : L.length ≤ 1000 := (few_of HLx.out).1.1
  have hm20 : Ls.length ≤ 1000 := (few_of HLx.out).1.2
  have HFw := Lib.hid (few_of HLx.out).2.1
  have HFu := Lib.hid (few_of HLx.out).2.2
  clear hsp hS2 hS3 hS m2 y0 y1 y2 y3 g0 g1 g2 g3 p1 p2 p3 bb7 HR7 HT7 HU7 HX7 HYes Q6 Q7 HCr2 HvS HLS HCl2 HFr HFl HRx HRlx HBS E6 HLd
  go_simp
  go_wp2
  go_loopg [8, 9, 10] L.length (fun gg s8 _ _ wr => ∃ k : Nat, k ≤ L.length ∧ L.length - k ≤ gg ∧ s8 = .int .i64 k ∧ Hid (Spoilt w5 (w5.heap.size + 1 + 1) S2 w6.heap.size ax cx L bx dx Ls pt rs wr))
  case atStart => exact ⟨0, Nat.zero_le _, by omega, rfl, HSp0⟩
  case round =>
    clear HSp0
    obtain ⟨k, hk, hg, rfl, HSp⟩ := hrel
    by_cases hlt : k < L.length
    · have hkl : (k : Int) < (L.length : Int) := by omega
      obtain ⟨g, rfl, hg1, hg2, hsp⟩ := HSp.out.2.2.1 (by omega)
      have x0 : wr.cell? ⟨w6.heap.size, 0, none⟩ = some (.slice (some ⟨g, 0, none⟩) L.length cx) := cell_heap HSp.out.2.1
      obtain ⟨-, -, ⟨x4, z4⟩, -⟩ := hsp.2 k hlt
      have fr4 : wr.frozen? ⟨g, k * 8 + 4, none⟩ = false := hsp.1 _
      have HSp1 := Lib.hid (HSp.out.row (by omega) HC2.out (by omega) k (.string ⟨#[63]⟩))
      clear hsp HSp
      have hfw := HFw.out _ (List.getElem_mem hlt)
      obtain ⟨hfm, hfb⟩ := hfw
      go_wp2
      clear x0 z4 fr4
      generalize wr.setCell ⟨g, k * 8 + 4, none⟩ (.string ⟨#[63]⟩) = wa at *
      go_loopg [9] L[k].bys.length (fun gg s9 wr => ∃ m : Nat, m ≤ L[k].bys.length ∧ L[k].bys.length - m ≤ gg ∧ s9 = .int .i64 m ∧ Hid (Spoilt w5 (w5.heap.size + 1 + 1) S2 w6.heap.size (some ⟨g, 0, none⟩) cx L bx dx Ls pt rs wr))
      case atStart => exact ⟨0, Nat.zero_le _, by omega, rfl, HSp1⟩
      case round =>
        clear HSp1
        obtain ⟨m, hm', hgm, rfl, HSq⟩ := hrel
        obtain ⟨g', e', -, -, hsp⟩ := HSq.out.2.2.1 (by omega)
        obtain rfl := same_g e'
        have x0 : wr.cell? ⟨w6.heap.size, 0, none⟩ = some (.slice (some ⟨g, 0, none⟩) L.length cx) := cell_heap HSq.out.2.1
        obtain ⟨-, z3, -, -, r3, -, n3⟩ := hsp.2 k hlt
        clear hsp e'
        by_cases hm2' : m < L[k].bys.length
        · have hml : (m : Int) < (L[k].bys.length : Int) := by omega
          obtain ⟨p, o, ea, hp1, hp2, hc, hf⟩ := r3.use (by omega)
          obtain ⟨x5, z5⟩ := hc m hm2'
          have fr5 := hf (o + m)
          have HSq1 := Lib.hid (HSq.out.lstR (by omega) HC2.out (o + m) (.string ⟨#[63]⟩) ea hp1 hp2 n3)
          rw [ea] at z3
          clear hc hf r3 n3 HSq ea
          go_wp2
          go_roundg (L[k].bys.length - (m + 1))
          case measure => omega
          case rel => exact ⟨m + 1, by omega, by omega, by go_num, HSq1⟩
        · obtain rfl : m = L[k].bys.length := by omega
          have hml : ¬ (L[k].bys.length : Int) < (L[k].bys.length : Int) := by omega
          clear r3 n3
          go_wp2
          clear x0 z3
          go_loopg [10] L[k].ms.length (fun gg s9 wr => ∃ m : Nat, m ≤ L[k].ms.length ∧ L[k].ms.length - m ≤ gg ∧ s9 = .int .i64 m ∧ Hid (Spoilt w5 (w5.heap.size + 1 + 1) S2 w6.heap.size (some ⟨g, 0, none⟩) cx L bx dx Ls pt rs wr))
          case atStart => exact ⟨0, Nat.zero_le _, by omega, rfl, HSq⟩
          case round =>
            clear HSq
            obtain ⟨m, hm', hgm, rfl, HSq⟩ := hrel
            obtain ⟨g', e', -, -, hsp⟩ := HSq.out.2.2.1 (by omega)
            obtain rfl := same_g e'
            have x0 : wr.cell? ⟨w6.heap.size, 0, none⟩ = some (.slice (some ⟨g, 0, none⟩) L.length cx) := cell_heap HSq.out.2.1
            obtain ⟨z1, -, -, r1, -, n1, -⟩ := hsp.2 k hlt
            clear hsp e'
            by_cases hm2' : m < L[k].ms.length
            · have hml : (m : Int) < (L[k].ms.length : Int) := by omega
              obtain ⟨p, o, ea, hp1, hp2, hc, hf⟩ := r1.use (by omega)
              obtain ⟨x5, z5⟩ := hc (m * 3) (by omega)
              have fr5 := hf (o + m * 3)
              have HSq1 := Lib.hid (HSq.out.lstR (by omega) HC2.out (o + m * 3) (.string ⟨#[63]⟩) ea hp1 hp2 n1)
              rw [ea] at z1
              clear hc hf r1 n1 HSq ea
              go_wp2
              go_roundg (L[k].ms.length - (m + 1))
              case measure => omega
              case rel => exact ⟨m + 1, by omega, by omega, by go_num, HSq1⟩
            · obtain rfl : m = L[k].ms.length := by omega
              have hml : ¬ (L[k].ms.length : Int) < (L[k].ms.length : Int) := by omega
              clear r1 n1
              go_wp2
              go_roundg (L.length - (k + 1))
              case measure => omega
              case rel => exact ⟨k + 1, by omega, by omega, by go_num, HSq⟩
    · obtain rfl : k = L.length := by omega
      have hkl : ¬ (L.length : Int) < (L.length : Int) := by omega
      have x0 : wr.cell? ⟨w6.heap.size, 0, none⟩ = some (.slice ax L.length cx) := cell_heap HSp.out.2.1
      go_wp2
      clear x0 hkl hlt
      go_loopg [11, 12] Ls.length (fun gg s8 _ wr => ∃ k : Nat, k ≤ Ls.length ∧ Ls.length - k ≤ gg ∧ s8 = .int .i64 k ∧ Hid (Spoilt w5 (w5.heap.size + 1 + 1) S2 w6.heap.size ax cx L bx dx Ls pt rs wr))
      case atStart => exact ⟨0, Nat.zero_le _, by omega, rfl, HSp⟩
      case round =>
        clear HSp
        obtain ⟨k, hk, hg, rfl, HSp⟩ := hrel
        by_cases hlt : k < Ls.length
        · have hkl : (k : Int) < (Ls.length : Int) := by omega
          obtain ⟨g, rfl, hg1, hg2, hsp⟩ := HSp.out.2.2.2 (by omega)
          have x0 : wr.cell? ⟨w6.heap.size, 1, none⟩ = some (.slice (some ⟨g, 0, none⟩) Ls.length dx) := cell_heap HSp.out.2.1
          obtain ⟨hf1, hf2, hf3⟩ := HFu.out _ (List.getElem_mem hlt)
          clear hsp
          go_wp2
          clear x0
          go_loopg [12] Ls[k].eqs.length (fun gg s9 wr => ∃ m : Nat, m ≤ Ls[k].eqs.length ∧ Ls[k].eqs.length - m ≤ gg ∧ s9 = .int .i64 m ∧ Hid (Spoilt w5 (w5.heap.size + 1 + 1) S2 w6.heap.size ax cx L (some ⟨g, 0, none⟩) dx Ls pt rs wr))
          case atStart => exact ⟨0, Nat.zero_le _, by omega, rfl, HSp⟩
          case round =>
            clear HSp
            obtain ⟨m, hm', hgm, rfl, HSq⟩ := hrel
            obtain ⟨g', e', -, -, hsp⟩ := HSq.out.2.2.2 (by omega)
            obtain rfl := same_g e'
            have x0 : wr.cell? ⟨w6.heap.size, 1, none⟩ = some (.slice (some ⟨g, 0, none⟩) Ls.length dx) := cell_heap HSq.out.2.1
            obtain ⟨z3, r3, n3⟩ := hsp k hlt
            clear hsp e'
            by_cases hm2' : m < Ls[k].eqs.length
            · have hml : (m : Int) < (Ls[k].eqs.length : Int) := by omega
              obtain ⟨p, o, ea, hp1, hp2, hc, hf⟩ := r3.use (by omega)
              obtain ⟨x5, z5⟩ := hc m hm2'
              have fr5 := hf (o + m)
              have HSq1 := Lib.hid (HSq.out.lstL (by omega) (o + m) (.string ⟨#[63]⟩) ea (HC3.out p hp1 hp2) hp1 hp2 n3)
              rw [ea] at z3
              clear hc hf r3 n3 HSq ea
              go_wp2
              go_roundg (Ls[k].eqs.length - (m + 1))
              case measure => omega
              case rel => exact ⟨m + 1, by omega, by omega, by go_num, HSq1⟩
            · obtain rfl : m = Ls[k].eqs.length := by omega
              have hml : ¬ (Ls[k].eqs.length : Int) < (Ls[k].eqs.length : Int) := by omega
              clear r3 n3
              go_wp2
              go_roundg (Ls.length - (k + 1))
              case measure => omega
              case rel => exact ⟨k + 1, by omega, by omega, by go_num, HSq⟩
        · obtain rfl : k = Ls.length := by omega
          have hkl : ¬ (Ls.length : Int) < (Ls.length : Int) := by omega
          have x0 : wr.cell? ⟨w6.heap.size, 1, none⟩ = some (.slice bx Ls.length dx) := cell_heap HSp.out.2.1
          have b9 := E5.out.trans (HSp.out.1.mono E5.out.size)
          have ka := K5.out.below HSp.out.1
          have ki := I5.out.below HSp.out.1
          have H9 := Lib.hid (HUc.out HLc.out av cv l' bv dv ls' HLy.out _ b9 (RA5.out.below HSp.out.1 (Nat.le_refl _)) (RB5.out.below HSp.out.1 (Nat.le_refl _)))
          have HYes : Hid (SameC l ls pt rs l' ls' pt rs) := Lib.hid ⟨HCr.out.symm, HCl.out.symm, rfl, rfl⟩
          have ca0 : wr.cell? ⟨w.heap.size, 0, none⟩ = some (.slice a l.length c) := cell_heap ka
          have ca1 : wr.cell? ⟨w.heap.size, 1, none⟩ = some (.slice b ls.length d) := cell_heap ka
          have ca2 : wr.cell? ⟨w.heap.size, 2, none⟩ = some (.int .i64 pt) := cell_heap ka
          have ca3 : wr.cell? ⟨w.heap.size, 3, none⟩ = some (.int .i64 rs) := cell_heap ka
          have ci0 : wr.cell? ⟨w4.heap.size, 0, none⟩ = some (.slice av l'.length cv) := cell_heap ki
          have ci1 : wr.cell? ⟨w4.heap.size, 1, none⟩ = some (.slice bv ls'.length dv) := cell_heap ki
          have ci2 : wr.cell? ⟨w4.heap.size, 2, none⟩ = some (.int .i64 pt) := cell_heap ki
          have ci3 : wr.cell? ⟨w4.heap.size, 3, none⟩ = some (.int .i64 rs) := cell_heap ki
          have B9 := Lib.hid b9
          clear b9 ka ki HSp HUc E5 K5 I5 RA5 RB5 hlt
          go_wp2_with (go_at_call 14; refine H9.out.mono ?_; rintro e w8 ⟨ht, q8⟩; obtain rfl := tells_yes ht HYes.out; clear ht; refine Hid.out ?_)
          refine Lib.hid ?_
          have b10 := B9.out.trans (q8.mono B9.out.size)
          have HW9 := Lib.hid (HW.out _ b10)
          go_wp2_with (go_at_call 10; refine HW9.out.mono ?_; rintro e w10 ⟨rfl, q10⟩)
          go_ret
          exact ⟨rfl, b10.trans (q10.mono b10.size)⟩
end Go.Proofs.YthaimnmbcbhioaaDoor
