/-
  askForHelp and giveUp of package probe.
-/
import Derived.Test.YtnoconampcemoaaO5
namespace Go.Proofs.Ytnoconampcemoaa
open Go Go.RowKit

set_option maxRecDepth 20000 in
set_option maxHeartbeats 4000000 in
theorem pbaskHelp_any (b d : Nat) (P : Pb) (T : Tb) (q : Nat) (hq : q < 4294967296) (w : World) (hP : PbBlk w b P) (hT : TabBlk w d T) (hbd : b ≠ d) :
    Calls Try.prog 36 #[.pointer (some ⟨b, 0, none⟩), .int .u32 (q : Int), .pointer (some ⟨d, 0, none⟩)] w (AskPost b (helpP P T q) w) := by
  have eg : ∀ args w, (callFunc 55 args).run Try.prog w = .ok (.enter 55 args) w := enters_of Try.func55 (by kernel_rfl) rfl
  have hB0 := (Below.refl w.heap.size w).alloc (Nat.le_refl _) (.cells #[.pointer (some ⟨b, 0, none⟩)] 28)
  have hT1 := hT.on hB0
  have hP1 := hP.on hB0
  have hb1 : (w.alloc (.cells #[.pointer (some ⟨b, 0, none⟩)] 28)).heap[w.heap.size]? = some (.cells #[.pointer (some ⟨b, 0, none⟩)] 28 (0, 0)) := newE w _
  have hsz : (w.alloc (.cells #[.pointer (some ⟨b, 0, none⟩)] 28)).heap.size = w.heap.size + 1 := by simp
  have hbl := hP.lt
  have c7 := hP1.at.c7
  have f0 := hP1.f
  have x0 : (w.alloc (.cells #[.pointer (some ⟨b, 0, none⟩)] 28)).cell? ⟨w.heap.size, 0, none⟩ = some (.pointer (some ⟨b, 0, none⟩)) := cellE hb1
  have hG1 := grownBy_setCell (w.alloc (.cells #[.pointer (some ⟨b, 0, none⟩)] 28)) b 7 (.bool true)
  have hP2 : PbBlk ((w.alloc (.cells #[.pointer (some ⟨b, 0, none⟩)] 28)).setCell ⟨b, 7, none⟩ (.bool true)) b P.help := hP1.setHelp true
  have hT2 := hT1.kept hG1 (by simp; omega)
  have hb2 : ((w.alloc (.cells #[.pointer (some ⟨b, 0, none⟩)] 28)).setCell ⟨b, 7, none⟩ (.bool true)).cell? ⟨w.heap.size, 0, none⟩ = some (.pointer (some ⟨b, 0, none⟩)) :=
    (cellE ((Below.heap_setCell _ _ _ _ (by show w.heap.size ≠ b; omega)).trans hb1))
  have hs2 : ((w.alloc (.cells #[.pointer (some ⟨b, 0, none⟩)] 28)).setCell ⟨b, 7, none⟩ (.bool true)).heap.size = w.heap.size + 1 := by simp [World.setCell]
  have HGA : Hid (w.grownBy ((w.alloc (.cells #[.pointer (some ⟨b, 0, none⟩)] 28)).setCell ⟨b, 7, none⟩ (.bool true)) (some b)) := Lib.hid ((grownBy_of_below hB0).trans hG1)
  have HO := Lib.hid (pbothers_any b d P.help T _ hP2 hT2)
  have HDel : Hid (∀ u a n c, RowU u (w.heap.size + 1) a n c (othersL P.help T) → Below (w.heap.size + 1) ((w.alloc (.cells #[.pointer (some ⟨b, 0, none⟩)] 28)).setCell ⟨b, 7, none⟩ (.bool true)) u →
      Calls Try.prog 53 #[.slice a n c, .func (.func 55) #[] #[.pointer (some ⟨w.heap.size, 0, none⟩)]] u fun e w' => ∃ n', e = .returned (.slice a n' c) ∧ RowU w' (w.heap.size + 1) a n' c (helpersL P T) ∧ Below (w.heap.size + 1) u w') :=
    Lib.hid (fun u a n c hR hu => delU_any 55 eg w.heap.size b 3 (P.qn : Int) (fun W x q1 q2 => pbaskHelpX_any b w.heap.size (P.qn : Int) W x q1 q2) u
      ((hu.cell (p := ⟨w.heap.size, 0, none⟩) (Nat.lt_succ_self _)).trans hb2) ((hu.cell (p := ⟨b, 3, none⟩) (by show b < _; omega)).trans hP2.at.c3) (w.heap.size + 1) (Nat.lt_succ_self _) (by omega) (by have := hu.size; omega) a n c _ hR)
  have HD : Hid (∀ u a n c N, RowU u N a n c (helpersL P T) → Calls Try.prog 56 #[.slice a n c, .int .u32 (q : Int)] u fun e w' => e = .returned (.tuple #[.int .u16 (drawnR (helpersL P T) q).1, .bool (drawnR (helpersL P T) q).2]) ∧ w' = u) :=
    Lib.hid (fun u a n c N hR => pbdrawn_any a n c N (helpersL P T) q hq u hR _ _ rfl)
  have HOut := Lib.hid (fun (u : World) (x : Int) (h : PbBlk u b P.help) => pbout_any b P.help x 2 u h)
  have HPP : Hid (∀ u, Below (w.heap.size + 1) ((w.alloc (.cells #[.pointer (some ⟨b, 0, none⟩)] 28)).setCell ⟨b, 7, none⟩ (.bool true)) u → PbBlk u b P.help) := Lib.hid (fun u hu => hP2.below hu (by omega))
  have HX2 : Hid (∀ u, Below (w.heap.size + 1) ((w.alloc (.cells #[.pointer (some ⟨b, 0, none⟩)] 28)).setCell ⟨b, 7, none⟩ (.bool true)) u → u.cell? ⟨w.heap.size, 0, none⟩ = some (.pointer (some ⟨b, 0, none⟩))) := Lib.hid (fun u hu => (hu.cell (p := ⟨w.heap.size, 0, none⟩) (Nat.lt_succ_self _)).trans hb2)
  have HS2 := Lib.hid hs2
  have HK : Hid (∀ r, drawnL (helpersL P T) q = r → helpP P T q = ⟨P.help, T, (r.map fun x => Ou.mk x 2 P.s P.qn P.qs).toList, []⟩) := Lib.hid (fun r e => by unfold helpP; rw [e])
  have HBl := Lib.hid hbl
  cases hdr : drawnL (helpersL P T) q with
  | none =>
    have hR : drawnR (helpersL P T) q = (0, false) := by unfold drawnR; rw [hdr]
    rw [HK.out _ hdr]
    rw [hR] at HD
    clear HK hR hdr hP hT hbd hq hB0 hT1 hP1 hb1 hbl hP2 hT2 hs2 hG1 eg hb2
    dsimp only at HD
    generalize helpersL P T = L at *
    go_enter Try.func36, Try.ntmps36
    go_wp2_with (go_at_call 54; refine HO.out.mono ?_; rintro e w1 ⟨a1, n1, c1, rfl, r1, q1⟩; replace r1 := Lib.hid r1; replace q1 := Lib.hid q1; refine Hid.out ?_)
    refine Lib.hid ?_
    have HR1 : Hid (RowU w1 (w.heap.size + 1) a1 n1 c1 (othersL P.help T)) := Lib.hid (by have := r1.out; rwa [HS2.out] at this)
    have HQ1 : Hid (Below (w.heap.size + 1) ((w.alloc (.cells #[.pointer (some ⟨b, 0, none⟩)] 28)).setCell ⟨b, 7, none⟩ (.bool true)) w1) := Lib.hid (by have := q1.out; rwa [HS2.out] at this)
    have HD1 := Lib.hid (HDel.out w1 a1 n1 c1 HR1.out HQ1.out)
    clear HDel HO HR1 r1
    go_wp2_with (go_at_call 53; refine HD1.out.mono ?_; rintro e w2 ⟨n2, rfl, hr2, q2⟩; replace hr2 := Lib.hid hr2; replace q2 := Lib.hid q2; refine Hid.out ?_)
    refine Lib.hid ?_
    have HD2 := Lib.hid (HD.out w2 a1 n2 c1 _ hr2.out)
    have HQ2 := Lib.hid (HQ1.out.trans q2.out)
    clear HD HD1
    go_wp2_with (go_at_call 56; refine HD2.out.mono ?_; rintro e w3 ⟨rfl, rfl⟩)
    go_ret
    exact ⟨_, _, _, rfl, OutsAt.nil _ _, HPP.out _ HQ2.out, HGA.out.trans (grownBy_of_below (by have := HQ2.out; rwa [← HS2.out] at this))⟩
  | some x =>
    have hR : drawnR (helpersL P T) q = (x, true) := by unfold drawnR; rw [hdr]
    rw [HK.out _ hdr]
    rw [hR] at HD
    clear HK hR hdr hP hT hbd hq hB0 hT1 hP1 hb1 hbl hP2 hT2 hs2 hG1 eg hb2
    dsimp only at HD
    simp only [Option.map_some, Option.toList]
    generalize helpersL P T = L at *
    go_enter Try.func36, Try.ntmps36
    go_wp2_with (go_at_call 54; refine HO.out.mono ?_; rintro e w1 ⟨a1, n1, c1, rfl, r1, q1⟩; replace r1 := Lib.hid r1; replace q1 := Lib.hid q1; refine Hid.out ?_)
    refine Lib.hid ?_
    have HR1 : Hid (RowU w1 (w.heap.size + 1) a1 n1 c1 (othersL P.help T)) := Lib.hid (by have := r1.out; rwa [HS2.out] at this)
    have HQ1 : Hid (Below (w.heap.size + 1) ((w.alloc (.cells #[.pointer (some ⟨b, 0, none⟩)] 28)).setCell ⟨b, 7, none⟩ (.bool true)) w1) := Lib.hid (by have := q1.out; rwa [HS2.out] at this)
    have HD1 := Lib.hid (HDel.out w1 a1 n1 c1 HR1.out HQ1.out)
    clear HDel HO HR1 r1
    go_wp2_with (go_at_call 53; refine HD1.out.mono ?_; rintro e w2 ⟨n2, rfl, hr2, q2⟩; replace hr2 := Lib.hid hr2; replace q2 := Lib.hid q2; refine Hid.out ?_)
    refine Lib.hid ?_
    have HD2 := Lib.hid (HD.out w2 a1 n2 c1 _ hr2.out)
    have HQ2 := Lib.hid (HQ1.out.trans q2.out)
    have HP3 := Lib.hid (HPP.out _ HQ2.out)
    have x3 := HX2.out _ HQ2.out
    clear HD HD1
    go_wp2_with (go_at_call 56; refine HD2.out.mono ?_; rintro e w3 ⟨rfl, rfl⟩; refine Hid.out ?_)
    refine Lib.hid ?_
    have HOu := Lib.hid (HOut.out _ x HP3.out)
    go_wp2_with (go_at_call 57; refine HOu.out.mono ?_; rintro e w4 ⟨a4, n4, c4, rfl, o4, q4⟩; replace o4 := Lib.hid o4; replace q4 := Lib.hid q4; refine Hid.out ?_)
    refine Lib.hid ?_
    go_wp2
    go_ret
    refine ⟨_, _, _, rfl, o4.out.base (by have := HQ2.out.size; have := HS2.out; omega), HP3.out.on q4.out, ?_⟩
    exact (HGA.out.trans (grownBy_of_below (by have := HQ2.out; rwa [← HS2.out] at this))).trans (grownBy_of_below q4.out)

end Go.Proofs.Ytnoconampcemoaa
