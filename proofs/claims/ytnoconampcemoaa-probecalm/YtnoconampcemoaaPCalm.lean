/-
  The walk of ProbeCalm.
-/
import Derived.Test.YtnoconampcemoaaO11
import Derived.Test.YtnoconampcemoaaPActs
namespace Go.Proofs.Ytnoconampcemoaa
open Go Go.RowKit

set_option maxRecDepth 100000 in
set_option maxHeartbeats 16000000 in
theorem calm_walk (u : Nat) (hu : u < 256) (a : Option Addr) (c n : Nat) (l : List Int) (W : World) (hM : U32At W a l) (hn : n = l.length) (hnl : n ≤ 9223372036854775807) :
    Calls Try.prog 5 #[.int .u8 (u : Int), .slice a n c] W fun e w' => e = .returned (.bool true) ∧ Below W.heap.size W w' := by
  have HAw := Lib.hid (fun u => pbawake_any u)
  have HM := Lib.hid hM
  have HN := Lib.hid hn
  have HNL := Lib.hid hnl
  have HNw := Lib.hid (bNew_any 0 W)
  have HPn := Lib.hid (fun v => pbNew_ok 0 10 3 v (by decide) (by decide) (by decide))
  obtain ⟨N, hN⟩ : ∃ N, u % 20 = N := ⟨_, rfl⟩
  have hN20 : N < 20 := by omega
  have ku : ((u : Int)).tmod 20 = (N : Int) := by rw [Int.tmod_eq_emod_of_nonneg (by omega)]; omega
  have ku2 : (u : Int) % 20 = (N : Int) := by omega
  have ku3 : wrap64 (u : Int) = (u : Int) := by unfold wrap64; omega
  have ku4 : wrap64 (1 + (N : Int)) = 1 + (N : Int) := by unfold wrap64; omega
  clear hM hn hnl hu hN
  go_enter Try.func5, Try.ntmps5
  go_wp2_with (go_at_call 19; refine HNw.out.mono ?_; rintro e w1 ⟨rfl, t1, q1⟩; replace t1 := Lib.hid t1; replace q1 := Lib.hid q1; refine Hid.out ?_)
  refine Lib.hid ?_
  have HT0 : Hid (TabBlk w1 W.heap.size (calmT 0) ∧ Below W.heap.size W w1) := Lib.hid ⟨t1.out, q1.out⟩
  clear HNw t1 q1
  go_wp2
  go_loopw [6] (fun x wr => ∃ (k : Nat), k ≤ N + 1 ∧ x = .int .i64 ((k : Int) + 1) ∧ Hid (TabBlk wr W.heap.size (calmT k) ∧ Below W.heap.size W wr)) (fun x _ => N + 2 - (intOf x).toNat)
  case atStart => exact ⟨0, Nat.zero_le _, rfl, HT0⟩
  case round =>
    clear HT0
    obtain ⟨k, hk, rfl, HS⟩ := hrel
    by_cases hlt : k < N + 1
    case pos =>
      have hkl : (k : Int) + 1 ≤ 1 + (N : Int) := by omega
      have hk6 : ((k : Int) + 1) % 65536 = (k : Int) + 1 := by omega
      have HH := Lib.hid (bHear_any W.heap.size (calmT k) ⟨(k : Int) + 1, 0, 0⟩ (by dsimp only; omega) wr HS.out.1)
      dsimp only [HearPost] at HH
      have HE : Hid (hearB (calmT k) ⟨(k : Int) + 1, 0, 0⟩ = calmT (k + 1)) := Lib.hid (by show _ = hearB (calmT k) ⟨((k + 1 : Nat) : Int), 0, 0⟩; rw [show ((k + 1 : Nat) : Int) = (k : Int) + 1 by omega])
      go_wp2_with (go_at_call 20; refine HH.out.mono ?_; rintro e w2 ⟨rfl, t2, g2⟩; replace t2 := Lib.hid t2; replace g2 := Lib.hid g2; refine Hid.out ?_)
      refine Lib.hid ?_
      have HS2 : Hid (TabBlk w2 W.heap.size (calmT (k + 1)) ∧ Below W.heap.size W w2) := Lib.hid ⟨by rw [← HE.out]; exact t2.out, HS.out.2.grown g2.out HS.out.2.size (fun j e => by cases e; exact Nat.le_refl _)⟩
      clear HS HH HE t2 g2
      go_wp2
      go_roundw
      case rel => exact ⟨k + 1, by omega, by go_num, HS2⟩
      case measure => simp [intOf]; omega
    case neg =>
      obtain rfl : k = N + 1 := by omega
      have hkl : ¬ (((N + 1 : Nat) : Int) + 1 ≤ 1 + (N : Int)) := by omega
      have HPw := Lib.hid (HPn.out wr)
      clear HPn
      go_wp2_with (go_at_call 21; refine HPw.out.mono ?_; rintro e w1 ⟨rfl, p1, q1⟩; replace p1 := Lib.hid p1; replace q1 := Lib.hid q1; refine Hid.out ?_)
      refine Lib.hid ?_
      have HP0 : Hid (PSt W w1 wr.heap.size W.heap.size (newPb 0 10 3) (calmT (N + 1))) := Lib.hid ⟨newPb_ok (by decide) (by decide) (by decide), calmTok _, p1.out, HS.out.1.on q1.out, HS.out.2.trans (q1.out.mono HS.out.2.size), HS.out.2.size, Nat.le_refl _, by have := HS.out.1.lt; omega⟩
      have HTT : Hid ((1 : Int) ∈ thereB (calmT (N + 1))) := Lib.hid (calmTthere _ (by omega))
      clear HPw HS p1 q1 hlt hk hkl ku ku2 ku3 ku4
      generalize calmT (N + 1) = T at *
      generalize wr.heap.size = b at *
      go_wp2
      go_loopw [9] (fun x wr2 => ∃ (i : Nat) (P : Pb), i ≤ n ∧ i ≤ 60 ∧ x = .int .i64 (i : Int) ∧ Hid (PSt W wr2 b W.heap.size P T ∧ CalmP P i)) (fun x _ => n - (intOf x).toNat)
      case atStart => exact ⟨0, _, Nat.zero_le _, by decide, rfl, Lib.hid ⟨HP0.out, calmP_new⟩⟩
      case round =>
        clear HP0
        obtain ⟨i, P, hi, hi60, rfl, HS⟩ := hrel
        have hbn : n ≤ 9223372036854775807 := HNL.out
        by_cases hln : i < n ∧ i < 60
        case neg =>
          by_cases h1 : i < n
          · have h1b : (i : Int) < (n : Int) := by omega
            have h2b : ¬ (i : Int) < 60 := by omega
            go_wp2_with (go_at_call 10; refine (HAw.out _).mono ?_; rintro e w9 ⟨rfl, q9⟩; replace q9 := Lib.hid q9; refine Hid.out ?_)
            refine Lib.hid ?_
            have HE := Lib.hid (HS.out.1.on q9.out).below
            go_wp2
            go_ret
            exact ⟨rfl, HE.out⟩
          · have h1b : ¬ (i : Int) < (n : Int) := by omega
            go_wp2_with (go_at_call 10; refine (HAw.out _).mono ?_; rintro e w9 ⟨rfl, q9⟩; replace q9 := Lib.hid q9; refine Hid.out ?_)
            refine Lib.hid ?_
            have HE := Lib.hid (HS.out.1.on q9.out).below
            go_wp2
            go_ret
            exact ⟨rfl, HE.out⟩
        obtain ⟨h1, h2⟩ := hln
        have h1b : (i : Int) < (n : Int) := by omega
        have h2b : (i : Int) < 60 := by omega
        obtain ⟨bz, oz, rfl, hbz, hcz⟩ := HM.out (by have := HN.out; omega)
        obtain ⟨hc0, hz0, hz1⟩ := hcz i (by have := HN.out; omega)
        have HCz : Hid (W.cell? ⟨bz, oz + i, none⟩ = some (.int .u32 (l[i]'(by have := HN.out; omega)))) := Lib.hid hc0
        obtain ⟨q, hq⟩ : ∃ q : Nat, l[i]'(by have := HN.out; omega) = (q : Int) := ⟨(l[i]'(by have := HN.out; omega)).toNat, by omega⟩
        rw [hq] at HCz hz1
        have hq2 : q < 4294967296 := by omega
        have HBz := Lib.hid hbz
        clear hcz hc0 hz0 hz1 hq hbz
        have c0 := (HS.out.1.below.cell (p := ⟨bz, oz + i, none⟩) HBz.out).trans HCz.out
        obtain ⟨x, hx0, hx1, ho, hnn, hTT, hak, hcp⟩ := calm_asks (q := q) HS.out.2 h2 HS.out.1.tok HTT.out
        have HTk := Lib.hid (HS.out.1.tick (10 * (i : Int)) q hq2)
        have HCP := Lib.hid hcp
        have HAk := Lib.hid hak
        have HOo := Lib.hid ho
        have HNn := Lib.hid hnn
        have HTq := Lib.hid hTT
        clear ho hnn hTT hak hcp
        generalize tickAny P T (10 * (i : Int)) q = K at *
        obtain ⟨KP, KT, Ko, Kn⟩ := K
        dsimp only at *
        obtain rfl := HOo.out
        obtain rfl := HNn.out
        obtain rfl := HTq.out
        go_wp2_with (go_at_call 15; refine HTk.out.mono ?_; rintro e w4 ⟨a4, n4, c4, a5, n5, c5, rfl, o4, m4, hn5, s4, g4⟩; replace o4 := Lib.hid o4; replace hn5 := Lib.hid hn5; replace s4 := Lib.hid s4; refine Hid.out ?_)
        refine Lib.hid ?_
        clear m4 g4 HTk HOo HNn HTq c0
        obtain rfl : n5 = 0 := hn5.out
        obtain ⟨gg, rfl, rfl, -, hgl, x0, x1, -, -, x4⟩ := o4.out.one
        dsimp only at x0 x1 x4
        have HS4 : Hid (PSt W w4 b W.heap.size KP KT) := Lib.hid s4.out
        have HAck := Lib.hid (pbAck_any b KP (x : Int) ((i : Int) + 1) w4 HS4.out.pb)
        have hxz : ((x : Int) == 0) = false := by rw [beq_eq_false_iff_ne]; omega
        clear o4 s4
        rw [HAk.out] at HAck
        go_wp2_with (go_at_call 18; refine HAck.out.mono ?_; rintro e w5 ⟨rfl, p5, g5⟩; replace p5 := Lib.hid p5; replace g5 := Lib.hid g5; refine Hid.out ?_)
        refine Lib.hid ?_
        have HS5 : Hid (PSt W w5 b W.heap.size (ackP KP (x : Int) ((i : Int) + 1)) KT) := Lib.hid (HS4.out.probe (HS4.out.pok.ack _ _) p5.out g5.out)
        clear HAck HS4 p5 g5 HS x0 x1 x4 hxz hgl
        generalize ackP KP (x : Int) ((i : Int) + 1) = P5 at *
        have hw5 := calm_waits (T := KT) (q := q) HCP.out h2
        have HTk := Lib.hid (HS5.out.tick (10 * (i : Int) + 3) q hq2)
        rw [hw5] at HTk
        clear hw5
        have c0 := (HS5.out.below.cell (p := ⟨bz, oz + i, none⟩) HBz.out).trans HCz.out
        go_wp2_with (go_at_call 15; refine HTk.out.mono ?_; rintro e w6 ⟨a6, n6, c6, a7, n7, c7, rfl, o6, m6, hn7, s6, g6⟩; replace o6 := Lib.hid o6; replace hn7 := Lib.hid hn7; replace s6 := Lib.hid s6; refine Hid.out ?_)
        refine Lib.hid ?_
        clear m6 g6 HTk c0
        obtain rfl : n7 = 0 := hn7.out
        obtain ⟨rfl, rfl, rfl⟩ := o6.out.none
        have HS6 : Hid (PSt W w6 b W.heap.size P5 KT) := Lib.hid s6.out
        clear o6 s6 HS5
        go_wp2
        go_roundw
        case rel => exact ⟨i + 1, P5, by omega, by omega, by go_num, Lib.hid ⟨HS6.out, HCP.out⟩⟩
        case measure => simp [intOf]; omega

end Go.Proofs.Ytnoconampcemoaa
