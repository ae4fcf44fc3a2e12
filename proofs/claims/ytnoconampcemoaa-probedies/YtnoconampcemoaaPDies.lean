/-
  The walk of ProbeDies.
-/
import Derived.Test.YtnoconampcemoaaO12
namespace Go.Proofs.Ytnoconampcemoaa
open Go Go.RowKit

set_option maxRecDepth 100000 in
set_option maxHeartbeats 16000000 in
theorem dies_walk (p : Nat) (hp : p < 65536) (sp : Bool) (W : World) :
    Calls Try.prog 6 #[.int .u16 (p : Int), .bool sp] W fun e w' => e = .returned (.bool true) ∧ Below W.heap.size W w' := by
  have HAw := Lib.hid (fun u => pbawake_any u)
  have HNw := Lib.hid (bNew_any 0 W)
  obtain ⟨r, hr⟩ : ∃ r : Nat, p % 1000 = r := ⟨_, rfl⟩
  obtain ⟨n, hn⟩ : ∃ n : Int, 2 + (r : Int) = n := ⟨_, rfl⟩
  have h2 : 2 ≤ n := by omega
  have h3 : n ≤ 1001 := by omega
  have k0 : wrap64 (p : Int) = (p : Int) := by unfold wrap64; omega
  have k1 : ((p : Int)).tmod 1000 = (r : Int) := by rw [Int.tmod_eq_emod_of_nonneg (by omega)]; omega
  have k2 : (p : Int) % 1000 = (r : Int) := by omega
  have k3 : wrap64 (2 + (r : Int)) = n := by rw [hn]; unfold wrap64; omega
  have k4 : wrap64 (n - 1) = n - 1 := by unfold wrap64; omega
  have k5 : wrap64 (4 * n) = 4 * n := by unfold wrap64; omega
  have k6 : wrap64 (4 * n - 1) = 4 * n - 1 := by unfold wrap64; omega
  have kne : ∀ w, (binOp .neq 43 (.agg #[.int .u16 1, .int .u8 1, .int .i64 0]) (.agg #[.int .u16 1, .int .u8 1, .int .i64 0])).run Try.prog w = .ok (.bool false) w := fun w => run_neM ⟨1, 1, 0⟩ ⟨1, 1, 0⟩ w
  have HPn := Lib.hid (fun v => pbNew_ok 0 n 1 v (by decide) ((spanOk_iff n).2 (by omega)) (by decide))
  have H2 := Lib.hid h2
  have H3 := Lib.hid h3
  clear hr hp h2 h3
  go_enter Try.func6, Try.ntmps6
  go_wp2_with (go_at_call 19; refine HNw.out.mono ?_; rintro e w1 ⟨rfl, t1, q1⟩; replace t1 := Lib.hid t1; replace q1 := Lib.hid q1; refine Hid.out ?_)
  refine Lib.hid ?_
  have HH := Lib.hid (bHear_any W.heap.size (newB 0) ⟨1, 0, 0⟩ (by decide) w1 t1.out)
  try dsimp only [HearPost] at HH
  clear HNw
  go_wp2_with (go_at_call 20; refine HH.out.mono ?_; rintro e w2 ⟨rfl, t2, g2⟩; replace t2 := Lib.hid t2; replace g2 := Lib.hid g2; refine Hid.out ?_)
  refine Lib.hid ?_
  have HT2 : Hid (TabBlk w2 W.heap.size aQ1) := Lib.hid t2.out
  have HB2 : Hid (Below W.heap.size W w2) := Lib.hid (q1.out.grown g2.out q1.out.size (fun j e => by cases e; exact Nat.le_refl _))
  have HPw := Lib.hid (HPn.out w2)
  clear HPn HH t1 q1 t2 g2
  go_wp2_with (go_at_call 21; refine HPw.out.mono ?_; rintro e w3 ⟨rfl, p3, q3⟩; replace p3 := Lib.hid p3; replace q3 := Lib.hid q3; refine Hid.out ?_)
  refine Lib.hid ?_
  have HS : Hid (PSt W w3 w2.heap.size W.heap.size (newPb 0 n 1) aQ1) := Lib.hid ⟨newPb_ok (by decide) ((spanOk_iff n).2 (by have := H2.out; have := H3.out; omega)) (by decide), aQ1ok, p3.out, HT2.out.on q3.out, HB2.out.trans (q3.out.mono HB2.out.size), HB2.out.size, Nat.le_refl _, by have := HT2.out.lt; omega⟩
  clear HPw p3 q3 HT2 HB2
  generalize w2.heap.size = b at *
  have HTk := Lib.hid (HS.out.tick (0) 0 (by decide))
  rw [die_a (n := n)] at HTk
  go_wp2_with (go_at_call 15; refine HTk.out.mono ?_; rintro e w4 ⟨a4, n4, c4, x4, y4, z4, rfl, o4, m4, hy4, s4, g4⟩; replace o4 := Lib.hid o4; replace m4 := Lib.hid m4; replace hy4 := Lib.hid hy4; replace s4 := Lib.hid s4; replace g4 := Lib.hid g4; refine Hid.out ?_)
  refine Lib.hid ?_
  replace HS := s4
  clear HTk o4 m4 hy4 g4 s4
  try dsimp only at HS
  have HTk := Lib.hid (HS.out.tick (n - 1) 0 (by decide))
  rw [die_b H2.out H3.out] at HTk
  go_wp2_with (go_at_call 15; refine HTk.out.mono ?_; rintro e w5 ⟨a5, n5, c5, x5, y5, z5, rfl, o5, m5, hy5, s5, g5⟩; replace o5 := Lib.hid o5; replace m5 := Lib.hid m5; replace hy5 := Lib.hid hy5; replace s5 := Lib.hid s5; replace g5 := Lib.hid g5; refine Hid.out ?_)
  refine Lib.hid ?_
  obtain rfl : y5 = 0 := hy5.out
  replace HS := s5
  clear HTk o5 m5 hy5 g5 s5
  try dsimp only at HS
  have HTk := Lib.hid (HS.out.tick (n) 0 (by decide))
  rw [die_c H2.out H3.out] at HTk
  go_wp2_with (go_at_call 15; refine HTk.out.mono ?_; rintro e w6 ⟨a6, n6, c6, x6, y6, z6, rfl, o6, m6, hy6, s6, g6⟩; replace o6 := Lib.hid o6; replace m6 := Lib.hid m6; replace hy6 := Lib.hid hy6; replace s6 := Lib.hid s6; replace g6 := Lib.hid g6; refine Hid.out ?_)
  refine Lib.hid ?_
  obtain ⟨gg, rfl, rfl, c0, c1, c2⟩ := m6.out.one
  try dsimp only at c0 c1 c2
  replace HS := s6
  clear HTk o6 m6 hy6 g6 s6
  try dsimp only at HS
  cases sp with
  | true =>
    have HH := Lib.hid (bHear_any W.heap.size aQ2 ⟨1, 0, 1⟩ (by decide) w6 HS.out.tab)
    try dsimp only [HearPost] at HH
    go_wp2_with (go_at_call 20; refine HH.out.mono ?_; rintro e w7 ⟨rfl, t7, g7⟩; replace t7 := Lib.hid t7; replace g7 := Lib.hid g7; refine Hid.out ?_)
    refine Lib.hid ?_
    have HS7 : Hid (PSt W w7 b W.heap.size (dP n 2 n (2 * n) true false (wOne n)) aQ3) := Lib.hid (HS.out.table (hearB_ok HS.out.tok (by decide) (by decide)) t7.out g7.out)
    have HAs := Lib.hid (pbAsked_any b _ w7 HS7.out.pb 1 2 true rfl)
    clear HH t7 g7 HS c0 c1 c2
    generalize heardM aQ2 ⟨1, 0, 1⟩ = dm at *
    generalize newsB aQ2 ⟨1, 0, 1⟩ = dr at *
    go_wp2_with (go_at_call 17; refine HAs.out.mono ?_; rintro e w8 ⟨rfl, q8⟩; replace q8 := Lib.hid q8; refine Hid.out ?_)
    refine Lib.hid ?_
    have HS8 := Lib.hid (HS7.out.on q8.out)
    have hak : ackB (dP n 2 n (2 * n) true false (wOne n)) 1 2 = true := by unfold ackB; simp [dP]
    have hap : ackP (dP n 2 n (2 * n) true false (wOne n)) 1 2 = dP n 2 n (2 * n) false false (wOne n) := by unfold ackP; rw [if_pos hak]; rfl
    have HAck := Lib.hid (pbAck_any b _ 1 2 w8 HS8.out.pb)
    rw [hak, hap] at HAck
    have HOk := Lib.hid (HS8.out.pok.ack 1 2)
    rw [hap] at HOk
    clear hak hap HAs HS7 q8
    go_wp2_with (go_at_call 18; refine HAck.out.mono ?_; rintro e w9 ⟨rfl, p9, g9⟩; replace p9 := Lib.hid p9; replace g9 := Lib.hid g9; refine Hid.out ?_)
    refine Lib.hid ?_
    have HS9 : Hid (PSt W w9 b W.heap.size (dP n 2 n (2 * n) false false (wOne n)) aQ3) := Lib.hid (HS8.out.probe HOk.out p9.out g9.out)
    clear HAck p9 g9 HS8 HOk
    obtain ⟨e1, e2⟩ := die_d H2.out H3.out
    have HTk := Lib.hid (HS9.out.tick (4 * n) 0 (by decide))
    have HE1 := Lib.hid e1
    have HE2 := Lib.hid e2
    clear e1 e2
    generalize tickAny (dP n 2 n (2 * n) false false (wOne n)) aQ3 (4 * n) 0 = K at *
    go_wp2_with (go_at_call 15; refine HTk.out.mono ?_; rintro e u1 ⟨a1, n1, c1, x1, y1, z1, rfl, o1, m1, hy1, s1, g1⟩; replace o1 := Lib.hid o1; replace m1 := Lib.hid m1; replace hy1 := Lib.hid hy1; replace s1 := Lib.hid s1; replace g1 := Lib.hid g1; refine Hid.out ?_)
    refine Lib.hid ?_
    obtain rfl : y1 = 0 := by have := hy1.out; rw [HE1.out] at this; exact this
    have HT1 : Hid (TabBlk u1 W.heap.size aQ3) := Lib.hid (by have := s1.out.tab; rwa [HE2.out] at this)
    have HB1 := Lib.hid s1.out.below
    have HG := Lib.hid (bGet_any W.heap.size aQ3 1 u1 HT1.out ⟨1, 0, 1⟩ true (by kernel_rfl))
    clear HTk o1 m1 hy1 g1 s1 HE1 HE2 HS9
    go_wp2_with (first | (go_at_call 22; refine HG.out.mono ?_; rintro e u2 ⟨rfl, q2⟩; replace q2 := Lib.hid q2; refine Hid.out ?_))
    refine Lib.hid ?_
    have HB2 : Hid (Below W.heap.size W (u2.alloc (.cells #[.int .u16 1, .int .u8 0, .int .i64 1] 43))) := Lib.hid ((HB1.out.trans (q2.out.mono HB1.out.size)).alloc (Nat.le_trans HB1.out.size q2.out.size) _)
    go_wp2_with (go_at_call 10; refine (HAw.out _).mono ?_; rintro e u3 ⟨rfl, q3⟩; replace q3 := Lib.hid q3; refine Hid.out ?_)
    refine Lib.hid ?_
    have HB3 := Lib.hid (HB2.out.trans (q3.out.mono HB2.out.size))
    go_wp2
    go_ret
    exact ⟨rfl, HB3.out⟩
  | false =>
    have HTk := Lib.hid (HS.out.tick (4 * n - 1) 0 (by decide))
    rw [die_e H2.out H3.out] at HTk
    go_wp2_with (go_at_call 15; refine HTk.out.mono ?_; rintro e u1 ⟨a1, n1, k1', x1, y1, z1, rfl, o1, m1, hy1, s1, g1⟩; replace o1 := Lib.hid o1; replace m1 := Lib.hid m1; replace hy1 := Lib.hid hy1; replace s1 := Lib.hid s1; replace g1 := Lib.hid g1; refine Hid.out ?_)
    refine Lib.hid ?_
    have HS1 : Hid (PSt W u1 b W.heap.size (dP n 3 (4 * n - 1) (5 * n - 1) true false (wOne n)) aQ2) := Lib.hid s1.out
    have HG := Lib.hid (bGet_any W.heap.size aQ2 1 u1 HS1.out.tab ⟨1, 1, 0⟩ true (by kernel_rfl))
    clear HTk o1 m1 hy1 g1 s1 HS c0 c1 c2
    go_wp2_with (go_at_call 22; refine HG.out.mono ?_; rintro e u2 ⟨rfl, q2⟩; replace q2 := Lib.hid q2; refine Hid.out ?_)
    refine Lib.hid ?_
    have hS2 := (HS1.out.on q2.out).on ((Below.refl u2.heap.size u2).alloc (Nat.le_refl _) (.cells #[.int .u16 1, .int .u8 1, .int .i64 0] 43))
    have hM2 : Mb (u2.alloc (.cells #[.int .u16 1, .int .u8 1, .int .i64 0] 43)) u2.heap.size ⟨1, 1, 0⟩ := Mb.new u2 ⟨1, 1, 0⟩
    have hlt : b < u2.heap.size ∧ W.heap.size < u2.heap.size := ⟨Nat.lt_of_lt_of_le HS1.out.pb.lt q2.out.size, Nat.lt_of_lt_of_le HS1.out.tab.lt q2.out.size⟩
    have HTk := Lib.hid (hS2.tick (4 * n) 0 (by decide))
    have HM2 := Lib.hid hM2
    have HLT := Lib.hid hlt
    clear hS2 hM2 hlt HG HS1 q2
    have HE2 := Lib.hid (die_f H2.out H3.out)
    generalize tickAny (dP n 3 (4 * n - 1) (5 * n - 1) true false (wOne n)) aQ2 (4 * n) 0 = K at *
    go_wp2_with (go_at_call 15; refine HTk.out.mono ?_; rintro e u3 ⟨a1, n1, k1', x1, y1, z1, rfl, o1, m1, hy1, s1, g1⟩; replace o1 := Lib.hid o1; replace m1 := Lib.hid m1; replace hy1 := Lib.hid hy1; replace s1 := Lib.hid s1; replace g1 := Lib.hid g1; refine Hid.out ?_)
    refine Lib.hid ?_
    have HT3 : Hid (TabBlk u3 W.heap.size aQ4) := Lib.hid (by have := s1.out.tab; rwa [HE2.out] at this)
    have HB3 := Lib.hid s1.out.below
    have HM3 : Hid (Mb u3 u2.heap.size ⟨1, 1, 0⟩) := Lib.hid ((g1.out.block _ HM2.out.lt (by have := HLT.out; omega) (by have := HLT.out; omega)).trans HM2.out)
    generalize u2.heap.size = B2 at *
    have HG := Lib.hid (bGet_any W.heap.size aQ4 1 u3 HT3.out ⟨1, 2, 0⟩ true (by kernel_rfl))
    clear HTk o1 m1 hy1 g1 s1 HE2 HM2 HLT
    go_wp2_with (go_at_call 22; refine HG.out.mono ?_; rintro e u4 ⟨rfl, q4⟩; replace q4 := Lib.hid q4; refine Hid.out ?_)
    refine Lib.hid ?_
    have hM4 := (HM3.out.on q4.out).on ((Below.refl u4.heap.size u4).alloc (Nat.le_refl _) (.cells #[.int .u16 1, .int .u8 2, .int .i64 0] 43))
    have c1 := hM4.c1
    have HB4 : Hid (Below W.heap.size W (u4.alloc (.cells #[.int .u16 1, .int .u8 2, .int .i64 0] 43))) := Lib.hid ((HB3.out.trans (q4.out.mono HB3.out.size)).alloc (Nat.le_trans HB3.out.size q4.out.size) _)
    clear hM4
    try dsimp only at c1
    go_wp2_with (go_at_call 10; refine (HAw.out _).mono ?_; rintro e u5 ⟨rfl, q5⟩; replace q5 := Lib.hid q5; refine Hid.out ?_)
    refine Lib.hid ?_
    have HB5 := Lib.hid (HB4.out.trans (q5.out.mono HB4.out.size))
    go_wp2
    go_ret
    exact ⟨rfl, HB5.out⟩

end Go.Proofs.Ytnoconampcemoaa
