/-
  The closed case of the statements on members.
-/
import Derived.Test.YtccldbophonloaaB9
namespace Go.Proofs.Ytccldbophonloaa
open Go Go.RowKit

set_option maxRecDepth 20000 in
theorem run_eqM (x y : Mem) (w : World) : (binOp .eql 32 (.agg #[.int .u16 x.n, .int .u8 x.s, .int .i64 x.i]) (.agg #[.int .u16 y.n, .int .u8 y.s, .int .i64 y.i])).run Try.prog w = .ok (.bool (eqMm x y)) w := by
  unfold eqMm
  cases h1 : x.n == y.n <;> cases h2 : x.s == y.s <;> go_simp <;> (by_cases hu : x.i = y.i <;> simp [hu])
/-- Hear, where its answer is known. -/
theorem bHear_is (b : Nat) (T T' : Tb) (m d : Mem) (r : Bool) (h0 : 0 ≤ m.n) (hT' : hearB T m = T') (hd : heardM T m = d) (hr : newsB T m = r) (w : World) (hT : TabBlk w b T) :
    Calls Try.prog 12 #[.pointer (some ⟨b, 0, none⟩), .agg #[.int .u16 m.n, .int .u8 m.s, .int .i64 m.i]] w fun e w' => e = .returned (.tuple #[.agg #[.int .u16 d.n, .int .u8 d.s, .int .i64 d.i], .bool r]) ∧ TabBlk w' b T' ∧ w.grownBy w' (some b) := by
  subst hT' hd hr
  exact bHear_any b T m h0 w hT
def aT1 : Tb := hearB (newB 1) ⟨2, 1, 0⟩
def aT3 : Tb := hearB aT1 ⟨1, 1, 0⟩
theorem aT1_ok : TbOk aT1 := hearB_ok (newB_ok (by decide)) (by decide) (by decide)
theorem aT3_ok : TbOk aT3 := hearB_ok aT1_ok (by decide) (by decide)
theorem aT3_there : thereB aT3 = [1, 2] := by decide
theorem aT3_pos : posB aT3 = 0 := by decide

set_option maxRecDepth 20000 in
set_option maxHeartbeats 4000000 in
theorem bawake_any (w : World) : Calls Try.prog 9 #[] w fun e w' => e = .returned (.bool true) ∧ Below w.heap.size w w' := by
  have HN := Lib.hid (bNew_any 1 w)
  have H1 := Lib.hid (fun u hu => bHear_is w.heap.size (newB 1) aT1 ⟨2, 1, 0⟩ ⟨2, 1, 0⟩ true (by decide) rfl (by rfl) (by decide) u hu)
  have H2 := Lib.hid (fun u hu => bHear_is w.heap.size aT1 aT1 ⟨2, 0, 0⟩ ⟨0, 0, 0⟩ false (by decide) (by unfold hearB; rw [if_neg (by decide)]) (by rfl) (by decide) u hu)
  have H3 := Lib.hid (fun u hu => bHear_is w.heap.size aT1 aT3 ⟨1, 1, 0⟩ ⟨1, 0, 1⟩ true (by decide) rfl (by rfl) (by decide) u hu)
  have H4 := Lib.hid (fun u hu => bPosition_any w.heap.size aT3 aT3_ok u hu)
  have H5 := Lib.hid (fun u hu => bThere_any w.heap.size aT3 u hu)
  rw [aT3_pos] at H4
  rw [aT3_there] at H5
  dsimp only at H1 H2 H3
  go_enter Try.func9, Try.ntmps9
  go_wp2_with (go_at_call 10; refine HN.out.mono ?_; rintro e w1 ⟨rfl, t1, q1⟩; replace t1 := Lib.hid t1; replace q1 := Lib.hid q1; refine Hid.out ?_)
  refine Lib.hid ?_
  go_wp2_with (go_at_call 12; refine (H1.out _ t1.out).mono ?_; rintro e w2 ⟨rfl, t2, g2⟩; replace t2 := Lib.hid t2; replace g2 := Lib.hid g2; refine Hid.out ?_)
  refine Lib.hid ?_
  have hb2 : Below w.heap.size w w2 := q1.out.grown g2.out q1.out.size (fun j e => by cases e; exact Nat.le_refl _)
  have hb3 := hb2.alloc hb2.size (.cells #[.int .u16 2, .int .u8 1, .int .i64 0] 32)
  have t3 := Lib.hid (t2.out.on ((Below.refl _ w2).alloc (Nat.le_refl _) (.cells #[.int .u16 2, .int .u8 1, .int .i64 0] 32)))
  have HB3 := Lib.hid hb3
  clear hb2 hb3 t1 q1 t2 g2 HN H1
  go_wp2_with (go_at_call 12; refine (H2.out _ t3.out).mono ?_; rintro e w4 ⟨rfl, t4, g4⟩; replace t4 := Lib.hid t4; replace g4 := Lib.hid g4; refine Hid.out ?_)
  refine Lib.hid ?_
  have hb4 : Below w.heap.size w w4 := HB3.out.grown g4.out HB3.out.size (fun j e => by cases e; exact Nat.le_refl _)
  have hb5 := hb4.alloc hb4.size (.cells #[.int .u16 0, .int .u8 0, .int .i64 0] 32)
  have t5 := Lib.hid (t4.out.on ((Below.refl _ w4).alloc (Nat.le_refl _) (.cells #[.int .u16 0, .int .u8 0, .int .i64 0] 32)))
  have HB5 := Lib.hid hb5
  clear hb4 hb5 t3 HB3 t4 g4 H2
  go_wp2_with (go_at_call 12; refine (H3.out _ t5.out).mono ?_; rintro e w6 ⟨rfl, t6, g6⟩; replace t6 := Lib.hid t6; replace g6 := Lib.hid g6; refine Hid.out ?_)
  refine Lib.hid ?_
  have hb6 : Below w.heap.size w w6 := HB5.out.grown g6.out HB5.out.size (fun j e => by cases e; exact Nat.le_refl _)
  have hb7 := hb6.alloc hb6.size (.cells #[.int .u16 1, .int .u8 0, .int .i64 1] 32)
  have t7 := Lib.hid (t6.out.on ((Below.refl _ w6).alloc (Nat.le_refl _) (.cells #[.int .u16 1, .int .u8 0, .int .i64 1] 32)))
  have HB7 := Lib.hid hb7
  clear hb6 hb7 t5 HB5 t6 g6 H3
  go_wp2_with (go_at_call 24; refine (H4.out _ t7.out).mono ?_; rintro e w8 ⟨rfl, q8⟩; replace q8 := Lib.hid q8; refine Hid.out ?_)
  refine Lib.hid ?_
  have t8 := Lib.hid (t7.out.on q8.out)
  have HB8 := Lib.hid (HB7.out.trans (q8.out.mono HB7.out.size))
  clear t7 HB7 q8 H4
  go_wp2_with (go_at_call 23; refine (H5.out _ t8.out).mono ?_; rintro e w9 ⟨a9, n9, k9, rfl, hn9, -, q9⟩; subst hn9; replace q9 := Lib.hid q9; refine Hid.out ?_)
  refine Lib.hid ?_
  have HB9 := Lib.hid (HB8.out.trans (q9.out.mono HB8.out.size))
  clear t8 HB8 q9 H5
  go_wp2
  go_ret
  exact ⟨rfl, HB9.out⟩

end Go.Proofs.Ytccldbophonloaa
