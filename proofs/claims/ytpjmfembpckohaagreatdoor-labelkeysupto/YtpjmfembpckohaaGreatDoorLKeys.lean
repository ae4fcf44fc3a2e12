/-
  The walk of LabelKeys.
-/
import Derived.Test.YtpjmfembpckohaaGreatDoorLRefRead
import Derived.Test.YtpjmfembpckohaaGreatDoorLBack
import Derived.Test.YtpjmfembpckohaaGreatDoorLPick2
namespace Go.Proofs.YtpjmfembpckohaaGreatDoor
open Go.RowKit

theorem refRead_yes (s : ByteArray) (w : World) (hs : s.size ≤ 1099511627776) (ps : List Pr) (hc : checkE ps = 0) (hk : s.data.toList = keyL ps) :
    Calls Tryz.prog 5 #[.string s] w fun e w' => ∃ a c, e = .returned (.tuple #[.slice a ps.length c, .int .i64 0]) ∧ PairsAt w' a ps ∧ Below w.heap.size w w' := by
  refine (refRead_any s w hs).mono ?_
  rintro e w' ⟨⟨a, c, qs, he, ho, hq, hk2⟩ | ⟨-, hno⟩, hb⟩
  · obtain rfl : qs = ps := keyL_inj (check_fits hq) (check_fits hc) (hk2.symm.trans hk)
    exact ⟨a, c, he, ho, hb⟩
  · exact absurd hk (hno ps hc)
theorem refRead_no (s : ByteArray) (w : World) (hs : s.size ≤ 1099511627776) (hno : ∀ qs, checkE qs = 0 → s.data.toList ≠ keyL qs) :
    Calls Tryz.prog 5 #[.string s] w fun e w' => e = .returned (.tuple #[.slice none 0 0, .int .i64 4]) ∧ Below w.heap.size w w' := by
  refine (refRead_any s w hs).mono ?_
  rintro e w' ⟨⟨a, c, qs, he, ho, hq, hk2⟩ | ⟨he, -⟩, hb⟩
  · exact absurd hk2 (hno qs hq)
  · exact ⟨he, hb⟩

set_option maxHeartbeats 4000000 in
set_option maxRecDepth 100000 in
theorem keys_yes (a b : Option Addr) (ca cb : Nat) (xs ys : List Pr) (s : ByteArray) (w : World) (ha : PairsAt w a xs) (hb : PairsAt w b ys) (hxl : xs.length ≤ 1048576) (hxz : ∀ p ∈ xs, p.1.size ≤ 1048576 ∧ p.2.size ≤ 1048576)
    (hxf : (partsK xs).flatten.length ≤ 100000000) (hs : s.size ≤ 1048576) (hv : VarsOk w.heap.size w) (qs : List Pr) (hqc : checkE qs = 0) (hqk : s.data.toList = keyL qs) :
    Calls Tryz.prog 3 #[.slice a xs.length ca, .slice b ys.length cb, .string s] w fun e w' => e = .returned (.bool true) ∧ Below w.heap.size w w' := by
  have hbe : ∀ (b : Bool) (w : World), (binOp .eql 4 (.bool b) (.bool b)).run Tryz.prog w = .ok (.bool true) w := fun b w => by
    cases b <;> kernel_rfl
  have HK := Lib.hid (fun w1 (hb1 : Below w.heap.size w w1) => Key_any a ca xs w.heap.size w1 (ha.below hb1 (Nat.le_refl _)) hxl hxz (by omega) hb1.size (hv.on hb1).tabOk xs.length rfl)
  have HKR := Lib.hid (fun w1 (hb1 : Below w.heap.size w w1) => refKey_any a ca xs w1 (ha.below hb1 (Nat.le_refl _)) hxl hxz (by omega) xs.length rfl)
  have HSM := Lib.hid (fun w1 (hb1 : Below w.heap.size w w1) => Same_any a b ca cb xs ys w1 (ha.below hb1 (Nat.le_refl _)) (hb.below hb1 (Nat.le_refl _)) (by omega) xs.length ys.length rfl rfl)
  have HSR := Lib.hid (fun w1 (hb1 : Below w.heap.size w w1) => refSame_any a b ca cb xs ys w1 (ha.below hb1 (Nat.le_refl _)) (hb.below hb1 (Nat.le_refl _)) (by omega) xs.length ys.length rfl rfl)
  generalize decide (xs = ys) = B0 at HSM HSR
  have hke : ((⟨(keyL xs).toArray⟩ : ByteArray).toList == (⟨(keyL xs).toArray⟩ : ByteArray).toList) = true := by simp
  generalize (⟨(keyL xs).toArray⟩ : ByteArray) = K1 at *
  have HR := Lib.hid (Read_yes s w (by omega) hv qs hqc hqk)
  have HRR := Lib.hid (fun w1 => refRead_yes s w1 (by omega) qs hqc hqk)
  have hq8 := check_len hqc
  clear ha hb hxz hxf hqc hqk
  go_enter Tryz.func3, Tryz.ntmps3
  go_wp2_with (go_at_call 4; refine HR.out.mono ?_; rintro e w1 ⟨a1, c1, rfl, ho1, hb1⟩; refine Hid.out ?_)
  refine Lib.hid ?_
  have hs1 := hb1.size
  go_wp2_with (go_at_call 5; refine (HRR.out w1).mono ?_; rintro e w2 ⟨a2, c2, rfl, hat2, hb2⟩; refine Hid.out ?_)
  refine Lib.hid ?_
  have hs2 := hb2.size
  have hn2 := hb1.trans (hb2.mono hs1)
  obtain ⟨_, _, hq1, hat1, -, -⟩ := ho1.form
  injection hq1 with q1 q2 q3
  subst q1 q3
  clear q2 ho1
  have HS2 := Lib.hid (fun w3 (hb3 : Below w2.heap.size w2 w3) => refSame_any a1 a2 c1 c2 qs qs w3 ((hat1.below hb2 (Nat.le_refl _)).below hb3 (Nat.le_refl _)) (hat2.below hb3 (Nat.le_refl _)) (by omega) qs.length qs.length rfl rfl)
  simp only [decide_true] at HS2
  clear hat1 hat2
  go_wp2_with (go_at_call 6; refine (HK.out w2 hn2).mono ?_; rintro e w3 ⟨rfl, hb3⟩; refine Hid.out ?_)
  refine Lib.hid ?_
  have hs3 := hb3.size
  have hn3 := hn2.trans (hb3.mono (by omega))
  go_wp2_with (go_at_call 7; refine (HKR.out w3 hn3).mono ?_; rintro e w4 ⟨rfl, hb4⟩; refine Hid.out ?_)
  refine Lib.hid ?_
  have hs4 := hb4.size
  have hn4 := hn3.trans (hb4.mono (by omega))
  have hb24 := hb3.trans (hb4.mono hs3)
  go_wp2_with (go_at_call 8; refine (HS2.out w4 hb24).mono ?_; rintro e w5 ⟨rfl, hb5⟩; refine Hid.out ?_)
  refine Lib.hid ?_
  have hs5 := hb5.size
  have hn5 := hn4.trans (hb5.mono (by omega))
  go_wp2_with (go_at_call 9; refine (HSM.out w5 hn5).mono ?_; rintro e w6 ⟨rfl, hb6⟩; refine Hid.out ?_)
  refine Lib.hid ?_
  have hs6 := hb6.size
  have hn6 := hn5.trans (hb6.mono (by omega))
  go_wp2_with (go_at_call 8; refine (HSR.out w6 hn6).mono ?_; rintro e w7 ⟨rfl, hb7⟩; refine Hid.out ?_)
  refine Lib.hid ?_
  have hn7 := hn6.trans (hb7.mono (by omega))
  have hs7 := hn7.size
  go_wp2_with (go_at_call 10; refine (awake_any w.heap.size _ hs7 (hv.on hn7).tabOk).mono ?_; rintro e wA ⟨rfl, hbA⟩; refine Hid.out ?_)
  refine Lib.hid ?_
  go_wp2
  go_ret
  exact ⟨rfl, hn7.trans (hbA.mono hs7)⟩

set_option maxHeartbeats 4000000 in
set_option maxRecDepth 100000 in
theorem keys_no (a b : Option Addr) (ca cb : Nat) (xs ys : List Pr) (s : ByteArray) (w : World) (ha : PairsAt w a xs) (hb : PairsAt w b ys) (hxl : xs.length ≤ 1048576) (hxz : ∀ p ∈ xs, p.1.size ≤ 1048576 ∧ p.2.size ≤ 1048576)
    (hxf : (partsK xs).flatten.length ≤ 100000000) (hs : s.size ≤ 1048576) (hv : VarsOk w.heap.size w) (hqn : ∀ qs, checkE qs = 0 → s.data.toList ≠ keyL qs) :
    Calls Tryz.prog 3 #[.slice a xs.length ca, .slice b ys.length cb, .string s] w fun e w' => e = .returned (.bool true) ∧ Below w.heap.size w w' := by
  have hbe : ∀ (b : Bool) (w : World), (binOp .eql 4 (.bool b) (.bool b)).run Tryz.prog w = .ok (.bool true) w := fun b w => by
    cases b <;> kernel_rfl
  have HK := Lib.hid (fun w1 (hb1 : Below w.heap.size w w1) => Key_any a ca xs w.heap.size w1 (ha.below hb1 (Nat.le_refl _)) hxl hxz (by omega) hb1.size (hv.on hb1).tabOk xs.length rfl)
  have HKR := Lib.hid (fun w1 (hb1 : Below w.heap.size w w1) => refKey_any a ca xs w1 (ha.below hb1 (Nat.le_refl _)) hxl hxz (by omega) xs.length rfl)
  have HSM := Lib.hid (fun w1 (hb1 : Below w.heap.size w w1) => Same_any a b ca cb xs ys w1 (ha.below hb1 (Nat.le_refl _)) (hb.below hb1 (Nat.le_refl _)) (by omega) xs.length ys.length rfl rfl)
  have HSR := Lib.hid (fun w1 (hb1 : Below w.heap.size w w1) => refSame_any a b ca cb xs ys w1 (ha.below hb1 (Nat.le_refl _)) (hb.below hb1 (Nat.le_refl _)) (by omega) xs.length ys.length rfl rfl)
  generalize decide (xs = ys) = B0 at HSM HSR
  have hke : ((⟨(keyL xs).toArray⟩ : ByteArray).toList == (⟨(keyL xs).toArray⟩ : ByteArray).toList) = true := by simp
  generalize (⟨(keyL xs).toArray⟩ : ByteArray) = K1 at *
  have HR := Lib.hid (Read_no s w (by omega) hv hqn)
  have HRR := Lib.hid (fun w1 => refRead_no s w1 (by omega) hqn)
  clear ha hb hxz hxf hqn
  go_enter Tryz.func3, Tryz.ntmps3
  go_wp2_with (go_at_call 4; refine HR.out.mono ?_; rintro e w1 ⟨rfl, hb1⟩; refine Hid.out ?_)
  refine Lib.hid ?_
  have hs1 := hb1.size
  go_wp2_with (go_at_call 5; refine (HRR.out w1).mono ?_; rintro e w2 ⟨rfl, hb2⟩; refine Hid.out ?_)
  refine Lib.hid ?_
  have hs2 := hb2.size
  have hn2 := hb1.trans (hb2.mono hs1)
  have HS2 := Lib.hid (fun w3 (_ : Below w2.heap.size w2 w3) => refSame_any none none 0 0 [] [] w3 (fun h => absurd h (by simp)) (fun h => absurd h (by simp)) (by simp) 0 0 rfl rfl)
  simp only [decide_true] at HS2
  go_wp2_with (go_at_call 6; refine (HK.out w2 hn2).mono ?_; rintro e w3 ⟨rfl, hb3⟩; refine Hid.out ?_)
  refine Lib.hid ?_
  have hs3 := hb3.size
  have hn3 := hn2.trans (hb3.mono (by omega))
  go_wp2_with (go_at_call 7; refine (HKR.out w3 hn3).mono ?_; rintro e w4 ⟨rfl, hb4⟩; refine Hid.out ?_)
  refine Lib.hid ?_
  have hs4 := hb4.size
  have hn4 := hn3.trans (hb4.mono (by omega))
  have hb24 := hb3.trans (hb4.mono hs3)
  go_wp2_with (go_at_call 8; refine (HS2.out w4 hb24).mono ?_; rintro e w5 ⟨rfl, hb5⟩; refine Hid.out ?_)
  refine Lib.hid ?_
  have hs5 := hb5.size
  have hn5 := hn4.trans (hb5.mono (by omega))
  go_wp2_with (go_at_call 9; refine (HSM.out w5 hn5).mono ?_; rintro e w6 ⟨rfl, hb6⟩; refine Hid.out ?_)
  refine Lib.hid ?_
  have hs6 := hb6.size
  have hn6 := hn5.trans (hb6.mono (by omega))
  go_wp2_with (go_at_call 8; refine (HSR.out w6 hn6).mono ?_; rintro e w7 ⟨rfl, hb7⟩; refine Hid.out ?_)
  refine Lib.hid ?_
  have hn7 := hn6.trans (hb7.mono (by omega))
  have hs7 := hn7.size
  go_wp2_with (go_at_call 10; refine (awake_any w.heap.size _ hs7 (hv.on hn7).tabOk).mono ?_; rintro e wA ⟨rfl, hbA⟩; refine Hid.out ?_)
  refine Lib.hid ?_
  go_wp2
  go_ret
  exact ⟨rfl, hn7.trans (hbA.mono hs7)⟩

end Go.Proofs.YtpjmfembpckohaaGreatDoor
