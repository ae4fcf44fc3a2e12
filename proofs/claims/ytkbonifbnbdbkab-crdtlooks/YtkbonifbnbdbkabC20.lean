/-
  The calls of a map that is not there.
-/
import Derived.Test.YtkbonifbnbdbkabC19
import Derived.Test.YtkbonifbnbdbkabC13
namespace Go.Proofs.Ytkbonifbnbdbkab
open Go.RowKit Go.Maps

theorem cList_nil (w : World) : Calls Try.prog 23 #[.pointer none] w fun e w' => e = .returned (.slice none 0 0) ∧ Below w.heap.size w w' := by
  go_enter Try.func23, Try.ntmps23
  go_wp2
  go_ret
  exact ⟨rfl, Below.refl _ _⟩
theorem cLen_nil (w : World) : Calls Try.prog 24 #[.pointer none] w fun e w' => e = .returned (.int .i64 0) ∧ Below w.heap.size w w' := by
  go_enter Try.func24, Try.ntmps24
  go_wp2
  go_ret
  exact ⟨rfl, Below.refl _ _⟩
theorem cFork_nil (w : World) : Calls Try.prog 19 #[.pointer none] w fun e w' => e = .returned (.pointer none) ∧ Below w.heap.size w w' := by
  go_enter Try.func19, Try.ntmps19
  go_wp2
  go_ret
  exact ⟨rfl, Below.refl _ _⟩
theorem cForget_nil (now : Int) (w : World) : Calls Try.prog 20 #[.pointer none, .int .i64 now] w fun e w' => e = .returned (.int .i64 0) ∧ Below w.heap.size w w' := by
  go_enter Try.func20, Try.ntmps20
  go_wp2
  go_ret
  exact ⟨rfl, by first | exact Below.refl _ _ | exact (Below.refl _ _).alloc (Nat.le_refl _) _⟩
theorem cPut_nil (x : Ent) (w : World) : Calls Try.prog 22 #[.pointer none, .agg #[.string x.k, .int .i64 x.t, .int .u16 x.o, .string x.v, .int .i64 x.u]] w fun e w' => e = .returned (.tuple #[.bool false, .int .i64 1]) ∧ Below w.heap.size w w' := by
  have d1 := (Below.refl w.heap.size w).alloc (Nat.le_refl _) (.cells #[.string x.k, .int .i64 x.t, .int .u16 x.o, .string x.v, .int .i64 x.u] 36)
  have HD := Lib.hid d1
  clear d1
  go_enter Try.func22, Try.ntmps22
  go_wp2
  go_ret2
  exact ⟨rfl, HD.out⟩
theorem cGet_nil (k : ByteArray) (w : World) : Calls Try.prog 10 #[.pointer none, .string k] w fun e w' => e = .returned (.tuple #[.agg #[.string ⟨#[]⟩, .int .i64 0, .int .u16 0, .string ⟨#[]⟩, .int .i64 0], .bool false]) ∧ Below w.heap.size w w' := by
  have b1 := EBlk.new w zeroE
  have d1 := (Below.refl w.heap.size w).alloc (Nat.le_refl _) (.cells #[.string ⟨#[]⟩, .int .i64 0, .int .u16 0, .string ⟨#[]⟩, .int .i64 0] 36)
  have HB := Lib.hid (And.intro b1 d1)
  clear b1 d1
  go_enter Try.func10, Try.ntmps10
  go_wp2
  refine bodyPost_ret (v := .tuple #[.agg #[.string ⟨#[]⟩, .int .i64 0, .int .u16 0, .string ⟨#[]⟩, .int .i64 0], .bool false]) (by obtain ⟨b1, -⟩ := HB.out; have x0 := b1.c0; have x1 := b1.c1; have x2 := b1.c2; have x3 := b1.c3; have x4 := b1.c4; dsimp only [zeroE] at x0 x1 x2 x3 x4; simp [results, Try.results10, go_sem, x0, x1, x2, x3, x4]) rfl ?_
  exact ⟨rfl, HB.out.2⟩
set_option maxRecDepth 100000 in
set_option maxHeartbeats 2000000 in
theorem cMerge_nil (a : Option Addr) (n c : Nat) (l : List Ent) (w : World) (he : EntsAt w a l) (hl : n ≤ 100000) (hn : n = l.length) : Calls Try.prog 8 #[.pointer none, .slice a n c] w fun e w' => e = .returned (.int .i64 0) ∧ Below w.heap.size w w' := by
  have HN := Lib.hid hn
  have HH := Lib.hid he
  clear hn he
  go_enter Try.func8, Try.ntmps8
  go_wp2
  go_loopw [5, 12] (fun v i wr => ∃ k : Nat, k ≤ n ∧ i = .int .i64 k ∧ v = .int .i64 0 ∧ Hid (Below w.heap.size w wr)) (fun _ i _ => n - (intOf i).toNat)
  case atStart => exact ⟨0, Nat.zero_le _, rfl, rfl, Lib.hid (Below.refl _ _)⟩
  case round =>
    obtain ⟨k, hk, rfl, rfl, HB⟩ := hrel
    by_cases hlt : k < n
    · have hkl : (k : Int) < (n : Int) := by omega
      have hkx : k < l.length := by have := HN.out; omega
      obtain ⟨b, o, rfl, hb, c0, c1, c2, c3, c4⟩ := (HH.out.on HB.out).cells k hkx
      have d2 := (Below.refl wr.heap.size wr).alloc (Nat.le_refl _) (.cells #[.string l[k].k, .int .i64 l[k].t, .int .u16 l[k].o, .string l[k].v, .int .i64 l[k].u] 36)
      have HP := Lib.hid (cPut_nil l[k] (wr.alloc (.cells #[.string l[k].k, .int .i64 l[k].t, .int .u16 l[k].o, .string l[k].v, .int .i64 l[k].u] 36)))
      have HD := Lib.hid (HB.out.trans (d2.mono HB.out.size))
      clear d2 hb HB
      generalize l[k] = x at *
      obtain ⟨kx, tx, ox, vx, ux⟩ := x
      dsimp only at c0 c1 c2 c3 c4 HP
      go_wp2_with (go_at_call 22; refine HP.out.mono ?_; rintro e w3 ⟨rfl, q3⟩; refine Hid.out ?_)
      refine Lib.hid ?_
      have HF := Lib.hid (HD.out.trans (q3.mono HD.out.size))
      clear HD HP c0 c1 c2 c3 c4 q3
      go_wp2
      go_roundw
      case rel => exact ⟨k + 1, by omega, by go_num, rfl, HF⟩
      case measure => simp [intOf]; omega
    · have hkl : ¬ (k : Int) < (n : Int) := by omega
      go_wp2
      go_ret
      exact ⟨rfl, HB.out⟩
theorem cView_nil (now : Int) (w : World) : Calls Try.prog 13 #[.pointer none, .int .i64 now] w fun e w' => e = .returned (.slice none 0 0) ∧ Below w.heap.size w w' := by
  have d1 := (Below.refl w.heap.size w).alloc (Nat.le_refl _) (.cells #[.int .i64 now] 3)
  have eg : ∀ args w, (callFunc 27 args).run Try.prog w = .ok (.enter 27 args) w := enters_of Try.func27 (by kernel_rfl) rfl
  have HD := Lib.hid d1
  clear d1
  go_enter Try.func13, Try.ntmps13
  go_wp2_with (go_at_call 23; refine (cList_nil _).mono ?_; rintro e w1 ⟨rfl, q1⟩; refine Hid.out ?_)
  refine Lib.hid ?_
  have HQ := Lib.hid (HD.out.trans (q1.mono HD.out.size))
  clear HD q1
  go_wp2_with (go_at_call 26; refine (delE_none 0 _ _ eg _).mono ?_; rintro e w2 ⟨rfl, q2⟩; refine Hid.out ?_)
  refine Lib.hid ?_
  have HR := Lib.hid (HQ.out.trans (q2.mono HQ.out.size))
  clear HQ q2 eg
  go_wp2
  go_ret
  exact ⟨rfl, HR.out⟩
theorem cDelta_nil (a : Option Addr) (n c : Nat) (w : World) : Calls Try.prog 15 #[.pointer none, .slice a n c] w fun e w' => e = .returned (.slice none 0 0) ∧ Below w.heap.size w w' := by
  go_enter Try.func15, Try.ntmps15
  go_wp2
  go_ret
  exact ⟨rfl, Below.refl _ _⟩

end Go.Proofs.Ytkbonifbnbdbkab
