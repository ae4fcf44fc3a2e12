/-
  giveUp of package probe.
-/
import Derived.Test.YtnoconampcemoaaO6
import Derived.Test.YtnoconampcemoaaB5
namespace Go.Proofs.Ytnoconampcemoaa
open Go Go.RowKit

/-- What a call that tells news leaves. -/
def NewsPost (b d : Nat) (K : Tk) (w : World) (e : Ending) (w' : World) : Prop :=
  ∃ a n c, e = .returned (.slice a n c) ∧ OwnMx w' w.heap.size (.slice a n c) K.n ∧ PbBlk w' b K.P ∧ TabBlk w' d K.T ∧ Grown2 w w' b d
theorem memsAt_one {w : World} {g : Nat} {m : Mem} (h : Mb w g m) : MemsAt w (some ⟨g, 0, none⟩) [m] := fun _ => ⟨g, 0, rfl, h.lt, fun i hi j v hv => by
  obtain rfl : i = 0 := by simpa using hi
  have hj : j < 3 := (List.getElem?_eq_some_iff.1 hv).1
  match j, hj with
  | 0, _ => obtain rfl := Option.some.inj hv; exact h.c0
  | 1, _ => obtain rfl := Option.some.inj hv; exact h.c1
  | 2, _ => obtain rfl := Option.some.inj hv; exact h.c2⟩
theorem atTlow {T : Tb} (h : TbOk T) (k : Nat) : 0 ≤ (atT T k).n := by
  unfold atT
  cases e : T.f k with
  | none => exact Int.le_refl _
  | some o => have := (h.ok k o e).1; simp only [Option.getD_some]; omega
set_option maxRecDepth 20000 in
set_option maxHeartbeats 8000000 in
theorem pbgiveUp_any (b d : Nat) (P : Pb) (T : Tb) (now : Int) (w : World) (hP : PbBlk w b P) (hT : TabBlk w d T) (hok : PbOk P) (htk : TbOk T) (hbd : b ≠ d) :
    Calls Try.prog 35 #[.pointer (some ⟨b, 0, none⟩), .int .i64 now, .pointer (some ⟨d, 0, none⟩)] w (NewsPost b d (giveP P T now) w) := by
  have c6 := hP.at.c6
  have c3 := hP.at.c3
  have f0 := hP.f
  have hG1 := grownBy_setCell w b 6 (.bool false)
  have hP1 : PbBlk (w.setCell ⟨b, 6, none⟩ (.bool false)) b P.shut := hP.setOpen false
  have hT1 := hT.kept hG1 (by simp; omega)
  have hs1 : (w.setCell ⟨b, 6, none⟩ (.bool false)).heap.size = w.heap.size := by simp [World.setCell]
  have HG1 := Lib.hid hG1
  have HP1 := Lib.hid hP1
  have HT1 := Lib.hid hT1
  have HS1 := Lib.hid hs1
  have HBL := Lib.hid hP.lt
  have HDL := Lib.hid hT.lt
  have HBD := Lib.hid hbd
  have HTK := Lib.hid htk
  have hq := hok.qn
  cases hf : T.f P.qn with
  | none =>
    have hK : giveP P T now = ⟨P.shut, T, [], []⟩ := by unfold giveP; rw [hf]
    have HGe := Lib.hid (bGet_any d T P.qn _ hT1 zM false (by unfold getR atT; rw [if_pos hq, hf]; rfl))
    rw [hK]
    clear hK hf hq hbd htk hok hP hT hP1 hT1 hG1 hs1
    go_enter Try.func35, Try.ntmps35
    go_wp2_with (go_at_call 22; refine HGe.out.mono ?_; rintro e w2 ⟨rfl, q2⟩; replace q2 := Lib.hid q2; refine Hid.out ?_)
    refine Lib.hid ?_
    have HB2 := Lib.hid (q2.out.trans (((Below.refl _ w2).alloc (Nat.le_refl _) (.cells #[.int .u16 0, .int .u8 0, .int .i64 0] 43)).mono q2.out.size))
    go_wp2
    go_ret
    exact ⟨_, _, _, rfl, OwnMx.nil _ _, HP1.out.on HB2.out, HT1.out.on HB2.out, (Grown2.one HG1.out).trans (Grown2.of HB2.out)⟩
  | some m =>
    have hn := htk.ok _ m hf
    obtain ⟨mn, ms, mi⟩ := m
    dsimp only at hn
    have hK : giveP P T now = ⟨watchP P.shut (atT (hearB T ⟨mn, 1, mi⟩) P.qn) now, hearB T ⟨mn, 1, mi⟩, [], tellM T ⟨mn, 1, mi⟩⟩ := by unfold giveP; rw [hf]
    have htk2 : TbOk (hearB T ⟨mn, 1, mi⟩) := hearB_ok htk (by dsimp only; omega) (by dsimp only; omega)
    have HGe := Lib.hid (bGet_any d T P.qn _ hT1 ⟨mn, ms, mi⟩ true (by unfold getR atT; rw [if_pos hq, hf]; rfl))
    dsimp only at HGe
    have HMe : Hid (∀ (u : World) (g : Nat), TabBlk u d T → Mb u g ⟨mn, 1, mi⟩ → g ≠ d → Calls Try.prog 52 #[.pointer (some ⟨d, 0, none⟩), .slice (some ⟨g, 0, none⟩) 1 1] u fun e w' =>
        ∃ a n c, e = .returned (.slice a n c) ∧ OwnMx w' u.heap.size (.slice a n c) (tellM T ⟨mn, 1, mi⟩) ∧ TabBlk w' d (hearB T ⟨mn, 1, mi⟩) ∧ u.grownBy w' (some d)) := Lib.hid (fun u g hu hm hg => by
      have := bMerge_any d T (some ⟨g, 0, none⟩) 1 1 [⟨mn, 1, mi⟩] (fun x hx => by obtain rfl := List.mem_singleton.1 hx; dsimp only; omega) rfl (by simp) u hu (memsAt_one hm) (fun _ q e => by obtain rfl := Option.some.inj e; exact hg)
      refine this.mono ?_
      rintro e w' ⟨a, n, c, h1, h2, h3, h4⟩
      refine ⟨a, n, c, h1, ?_, h3, h4⟩
      simpa [mergeM] using h2)
    obtain ⟨m2, hm2⟩ : ∃ m2, atT (hearB T ⟨mn, 1, mi⟩) P.qn = m2 := ⟨_, rfl⟩
    obtain ⟨r2, hr2⟩ : ∃ r2, ((hearB T ⟨mn, 1, mi⟩).f P.qn).isSome = r2 := ⟨_, rfl⟩
    have h20 : 0 ≤ m2.n := hm2 ▸ atTlow htk2 P.qn
    have HGe2 : Hid (∀ u, TabBlk u d (hearB T ⟨mn, 1, mi⟩) → Calls Try.prog 22 #[.pointer (some ⟨d, 0, none⟩), .int .u16 (P.qn : Int)] u fun e w' => e = .returned (.tuple #[.agg #[.int .u16 m2.n, .int .u8 m2.s, .int .i64 m2.i], .bool r2]) ∧ Below u.heap.size u w') :=
      Lib.hid (fun u hu => bGet_any d _ P.qn u hu m2 r2 (by unfold getR; rw [if_pos hq, hm2, hr2]))
    have HWa : Hid (∀ u, PbBlk u b P.shut → Calls Try.prog 16 #[.pointer (some ⟨b, 0, none⟩), .agg #[.int .u16 m2.n, .int .u8 m2.s, .int .i64 m2.i], .int .i64 now] u fun e w' => e = .returned (.tuple #[]) ∧ PbBlk w' b (watchP P.shut m2 now) ∧ u.grownBy w' (some b)) :=
      Lib.hid (fun u hu => pbWatch_any b P.shut m2 h20 now u hu)
    rw [hK, hm2]
    clear hK hf hn htk2 htk hok hP hT hP1 hT1 hG1 hs1 hm2 hr2 h20 hbd
    generalize hearB T ⟨mn, 1, mi⟩ = T2 at *
    generalize tellM T ⟨mn, 1, mi⟩ = N2 at *
    obtain ⟨m2n, m2s, m2i⟩ := m2
    dsimp only at HGe2 HWa
    go_enter Try.func35, Try.ntmps35
    go_wp2_with (go_at_call 22; refine HGe.out.mono ?_; rintro e w2 ⟨rfl, q2⟩; replace q2 := Lib.hid q2; refine Hid.out ?_)
    refine Lib.hid ?_
    have hb3 := (Below.refl w2.heap.size w2).alloc (Nat.le_refl _) (.cells #[.int .u16 mn, .int .u8 1, .int .i64 mi] 43)
    have hb4 := hb3.alloc hb3.size (.cells #[.int .u16 mn, .int .u8 1, .int .i64 mi] 43)
    have hsz4 : ((w2.alloc (.cells #[.int .u16 mn, .int .u8 1, .int .i64 mi] 43)).alloc (.cells #[.int .u16 mn, .int .u8 1, .int .i64 mi] 43)).heap.size = w2.heap.size + 2 := by simp
    have hl2 : w.heap.size ≤ w2.heap.size := by have := q2.out.size; have := HS1.out; omega
    have hMb0 : Mb ((w2.alloc (.cells #[.int .u16 mn, .int .u8 1, .int .i64 mi] 43)).alloc (.cells #[.int .u16 mn, .int .u8 1, .int .i64 mi] 43)) w2.heap.size ⟨mn, 1, mi⟩ := (Mb.new w2 ⟨mn, 1, mi⟩).on ((Below.refl _ _).alloc (Nat.le_refl _) _)
    have HM4 := Lib.hid (HMe.out _ (w2.heap.size + 1) ((HT1.out.on q2.out).on hb4) (Mb.new2 w2 _ ⟨mn, 1, mi⟩) (by have := HDL.out; omega))
    have HMb := Lib.hid hMb0
    have HB4 := Lib.hid hb4
    have HZ4 := Lib.hid hsz4
    have HL2 := Lib.hid hl2
    clear hb3 hb4 hsz4 hMb0 hl2 HGe HMe
    go_wp2_with (go_at_call 52; refine HM4.out.mono ?_; rintro e w5 ⟨a5, n5, c5, rfl, o5, t5, g5⟩; replace o5 := Lib.hid o5; replace t5 := Lib.hid t5; replace g5 := Lib.hid g5; refine Hid.out ?_)
    refine Lib.hid ?_
    have HMb5 := Lib.hid (HMb.out.kept g5.out (by have := HDL.out; have := HL2.out; simp; omega))
    have HP5 := Lib.hid (((HP1.out.on q2.out).on HB4.out).kept g5.out (by have := HBD.out; simp; omega))
    have c53 := HP5.out.at.c3
    have f5 := HP5.out.f
    have HG5 : Hid (Grown2 w w5 b d) := Lib.hid (((Grown2.one HG1.out).trans (Grown2.of q2.out)).trans ((Grown2.of HB4.out).trans (Grown2.two g5.out)))
    have HGet := Lib.hid (HGe2.out _ t5.out)
    clear HM4 HGe2 g5 HMb
    go_wp2_with (go_at_call 22; refine HGet.out.mono ?_; rintro e w6 ⟨rfl, q6⟩; replace q6 := Lib.hid q6; refine Hid.out ?_)
    refine Lib.hid ?_
    have hMb6 := HMb5.out.on q6.out
    have d0 := hMb6.c0
    have d1 := hMb6.c1
    have d2 := hMb6.c2
    have e0 := hMb6.f
    have HSt : Hid (Mb (stM w6 w2.heap.size ⟨m2n, m2s, m2i⟩) w2.heap.size ⟨m2n, m2s, m2i⟩) := Lib.hid (hMb6.store _)
    have HPs := Lib.hid ((HP5.out.on q6.out).kept (stM_grown w6 w2.heap.size ⟨m2n, m2s, m2i⟩) (by have := HBL.out; have := HL2.out; simp; omega))
    have HWs := Lib.hid (HWa.out _ HPs.out)
    have HGs := Lib.hid (stM_grown w6 w2.heap.size ⟨m2n, m2s, m2i⟩)
    clear hMb6 HWa
    go_wp2_with (go_at_call 16; refine HWs.out.mono ?_; rintro e w8 ⟨rfl, p8, g8⟩; replace p8 := Lib.hid p8; replace g8 := Lib.hid g8; refine Hid.out ?_)
    refine Lib.hid ?_
    go_wp2
    go_ret
    have hbz := HZ4.out
    have hl := HL2.out
    have hbl := HBL.out
    have hdl := HDL.out
    refine ⟨_, _, _, rfl, ?_, p8.out, ?_, ?_⟩
    · have h1 : OwnMx w5 (w2.heap.size + 2) (.slice a5 n5 c5) N2 := by have := o5.out; rwa [hbz] at this
      have h2 := h1.on q6.out
      have h3 := h2.turn HGs.out (by omega)
      exact (h3.turn g8.out (by omega)).base (by omega)
    · exact ((t5.out.on q6.out).kept HGs.out (by simp; omega)).kept g8.out (by have := HBD.out; simp; omega)
    · have h1 := HG5.out.trans (Grown2.of q6.out)
      have h2 : Grown2 w (stM w6 w2.heap.size ⟨m2n, m2s, m2i⟩) b d := ⟨HGs.out.os.trans h1.os, HGs.out.tape.trans h1.tape, HGs.out.output.trans h1.output, Nat.le_trans h1.size HGs.out.size, fun k hk hb hd => (HGs.out.block k (Nat.lt_of_lt_of_le hk h1.size) (by simp; omega)).trans (h1.block k hk hb hd)⟩
      exact h2.trans (Grown2.one g8.out)

end Go.Proofs.Ytnoconampcemoaa
