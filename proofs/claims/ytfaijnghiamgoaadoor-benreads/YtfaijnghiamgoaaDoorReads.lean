/-
  The walk of BenReads.
-/
import Derived.Test.YtfaijnghiamgoaaDoorDo
import Derived.Test.YtfaijnghiamgoaaDoorRef2
import Derived.Test.YtfaijnghiamgoaaDoorAwake
import Derived.Deep.RegionWith
namespace Go.Proofs.YtfaijnghiamgoaaDoor
open Go.RowKit

theorem do_any (rb : Nat) (a : Option Addr) (c : Nat) (ax : Option Addr) (cx : Nat) (l : List UInt8) (e : Int) (k : Nat) (most : Int) (B : Nat) (w : World) (h : Rd w rb a c l e) (hx : XS w ax cx l e) (hlow : ∀ q, ax = some q → q.block < rb) (hB : B ≤ rb) (hBw : B ≤ w.heap.size) (hv : VarsOk B w) (hk : k < 256) :
    Calls Tryd.prog 5 #[.pointer (some ⟨rb, 0, none⟩), .agg #[.slice ax l.length cx, .int .i64 e], .agg #[.int .u8 (k : Int), .int .i64 most]] w fun r w' => ∃ l1 e1, DoAns w w' rb r l1 e1 := by
  have hm : k % 5 = 0 ∨ k % 5 = 1 ∨ k % 5 = 2 ∨ k % 5 = 3 ∨ k % 5 = 4 := by omega
  rcases hm with hm | hm | hm | hm | hm
  · exact (do_int rb a c ax cx l e k most B w h hx hlow hB hBw hv hk hm _ _ _ rfl).mono fun r w' h => ⟨_, _, h⟩
  · exact (do_text rb a c ax cx l e k most B w h hx hlow hB hBw hv hk hm _ _ _ rfl).mono fun r w' h => ⟨_, _, h⟩
  · exact (do_open rb a c ax cx l e k most B w h hx hlow hB hBw hv hk hm _ _ rfl).mono fun r w' h => ⟨_, _, h⟩
  · exact (do_more rb a c ax cx l e k most B w h hx hlow hB hBw hv hk hm).mono fun r w' h => ⟨_, _, h⟩
  · exact (do_close rb a c ax cx l e k most B w h hx hlow hB hBw hv hk hm _ _ rfl).mono fun r w' h => ⟨_, _, h⟩

/-- Calls that came in. -/
def ActsAt (w : World) (a : Option Addr) (n : Nat) (K : Nat → Nat) (M : Nat → Int) : Prop :=
  0 < n → ∃ b o, a = some ⟨b, o, none⟩ ∧ ∀ i, i < n → K i < 256 ∧ w.cell? ⟨b, o + i * 2, none⟩ = some (.int .u8 (K i : Int)) ∧ w.cell? ⟨b, o + i * 2 + 1, none⟩ = some (.int .i64 (M i))

theorem ownM_made (w : World) : OwnM (w.alloc (.cells #[] 5)) w.heap.size (.slice (some ⟨w.heap.size, 0, none⟩) 0 0) [] := .inl (World.ownsRow_made w #[] 0 (Nat.le_refl _) (Nat.zero_le _) (by simp))

set_option maxHeartbeats 4000000 in
set_option maxRecDepth 100000 in
theorem reads_walk (ab : Option Addr) (cb : Nat) (lb : List UInt8) (la : Option Addr) (ln lc : Nat) (K : Nat → Nat) (M : Nat → Int) (w : World) (hb : SrcAt w (.slice ab lb.length cb) lb) (hcb : lb.length ≤ cb) (hlb : lb.length ≤ 140737488351232)
    (hbl : ∀ q, ab = some q → q.block < w.heap.size) (hl : ActsAt w la ln K M) (hln : ln ≤ 9223372036854775807) (hv : VarsOk w.heap.size w) :
    Calls Tryd.prog 3 #[.slice ab lb.length cb, .slice la ln lc] w fun e w' => e = .returned (.bool true) ∧ Below w.heap.size w w' := by
  have hb0 : Below w.heap.size w (w.alloc (.cells #[] 5)) := (Below.refl _ _).alloc (Nat.le_refl _) _
  have HSB := Lib.hid (fun w1 (hb1 : Below w.heap.size w w1) => hb.below hb1 (Nat.le_refl _))
  have HLA := Lib.hid hl
  have HBL := Lib.hid hbl
  clear hb hl hbl
  go_enter Tryd.func3, Tryd.ntmps3
  go_wp2_with (at_builtin; refine wpList_append_m rfl _ _ rfl w.heap.size _ _ [] lb rfl rfl (ownM_made w) (HSB.out _ hb0) (by simp) (by simp; omega) ?_; refine Hid.out ?_)
  refine Lib.hid ?_
  intro v1 w1 ho1 hg1
  have ho1' : OwnM w1 w.heap.size v1 lb := ho1
  obtain ⟨a1, k1, c1, rfl⟩ := ho1'.form
  have hb1 : Below w.heap.size w w1 := hb0.grown hg1 (by simp) (fun j hj => by simp [Value.ownBlock] at hj; omega)
  have hs1 := hb1.size
  have hsrc1 := ho1'.src
  have HS1 := Lib.hid (fun w2 (hb2 : Below w1.heap.size w1 w2) => hsrc1.below hb2 (Nat.le_refl _))
  have HN := Lib.hid (New_any _ lb w1 hsrc1 (by omega))
  clear ho1 ho1' hg1 hsrc1 hb0
  go_wp2_with (go_at_call 4; refine HN.out.mono ?_; rintro e w2 ⟨rb, a2, c2, rfl, hrd2, hrb, -, hb2⟩; refine Hid.out ?_)
  refine Lib.hid ?_
  have hs2 := hb2.size
  have hrl := hrd2.blk.lt
  have hn2 := hb1.trans (hb2.mono hs1)
  have hbx : Below w2.heap.size w2 (w2.alloc (.cells #[.slice ab lb.length cb, .int .i64 0] 27)) := (Below.refl _ _).alloc (Nat.le_refl _) _
  have hT3 := Two.new w2 27 (.slice ab lb.length cb) (.int .i64 0)
  have hrd3 := hrd2.below hbx
  have hn3 := hb2.trans (hbx.mono (by omega))
  have hxs3 : XS (w2.alloc (.cells #[.slice ab lb.length cb, .int .i64 0] 27)) ab cb lb 0 := ⟨HSB.out _ (hn2.trans (hbx.mono (by omega))), hcb, by omega, fun h => absurd rfl h⟩
  have hlow3 : ∀ q, ab = some q → q.block < rb := fun q hq => by have := HBL.out q hq; omega
  have HST := Lib.hid (And.intro hrd3 (And.intro hT3 (And.intro hxs3 (And.intro hlow3 hn3))))
  clear hrd2 hrd3 hT3 hxs3 hlow3 hn3 hbx HN hb2
  go_wp2
  go_loopw [9] (fun i wr => ∃ (k : Nat) (a : Option Addr) (c : Nat) (ax : Option Addr) (cx : Nat) (l : List UInt8) (e : Int), k ≤ ln ∧ i = .int .i64 k ∧ Rd wr rb a c l e ∧ Two wr w2.heap.size 27 (.slice ax l.length cx) (.int .i64 e) ∧ XS wr ax cx l e ∧ (∀ q, ax = some q → q.block < rb) ∧ Below w1.heap.size w1 wr) (fun i _ => ln - (intOf i).toNat)
  case atStart => exact ⟨0, a2, c2, ab, cb, lb, 0, Nat.zero_le _, rfl, HST.out.1, HST.out.2.1, HST.out.2.2.1, HST.out.2.2.2.1, HST.out.2.2.2.2⟩
  case round =>
    obtain ⟨k, a, c, ax, cx, l, e, hk, rfl, hrd, hT, hxs, hlow, hnx⟩ := hrel
    have hsr := hnx.size
    have hnw := hb1.trans (hnx.mono hs1)
    by_cases hlt : k < ln
    · have hkl : (k : Int) < (ln : Int) := by omega
      obtain ⟨bl, ol, rfl, hacts⟩ := HLA.out (by omega)
      obtain ⟨hK, hc1, hc2⟩ := hacts k hlt
      rw [← hnw.cell (p := ⟨bl, ol + k * 2, none⟩) (World.block_lt_of_cell? w _ hc1)] at hc1
      rw [← hnw.cell (p := ⟨bl, ol + k * 2 + 1, none⟩) (World.block_lt_of_cell? w _ hc2)] at hc2
      have x0 := hT.c0
      have x1 := hT.c1
      have hTl := hT.lt
      have HDO := Lib.hid (do_any rb a c ax cx l e (K k) (M k) w.heap.size wr.drew (hrd.below (Below.refl _ _).drew) (hxs.below (Below.refl _ _).drew) hlow (by omega) (by simp; omega) ((hv.on hnw).on (Below.refl _ _).drew) hK)
      generalize K k = kk at *
      generalize M k = mm at *
      clear hacts
      go_wp2
      go_region_with (first
        | (go_at_call 5; refine HDO.out.mono ?_; rintro r w4 ⟨l4, e4, ⟨a4, c4, hrd4⟩, ⟨ax4, cx4, rfl, hxs4, hlow4⟩, hg4⟩; have hT4 := (hT.below (B := wr.heap.size) (Below.refl _ _).drew (by omega)).grown hg4 (by simp; omega); have y0 := hT4.c0; have y1 := hT4.c1; have y2 := hT4.fr))
      all_goals
        have hs4 := hg4.size
        have hT5 := (hT4.set0 (.slice ax4 l4.length cx4)).set1 (.int .i64 e4)
        have hrd5 := (hrd4.above (grownBy_setCell w4 w2.heap.size 0 (.slice ax4 l4.length cx4)) (fun j hj => by simp at hj; omega)).above (grownBy_setCell _ w2.heap.size 1 (.int .i64 e4)) (fun j hj => by simp at hj; omega)
        have hxs5 := hxs4.low (((Below.refl rb w4).setCell (p := ⟨w2.heap.size, 0, none⟩) (show rb ≤ w2.heap.size by omega) (.slice ax4 l4.length cx4)).setCell (p := ⟨w2.heap.size, 1, none⟩) (show rb ≤ w2.heap.size by omega) (.int .i64 e4)) hlow4
        have hn5 := (((hnx.drew).trans (below_of_grownBy hg4 (B := w1.heap.size) hrb (by simp; omega))).setCell (p := ⟨w2.heap.size, 0, none⟩) (show w1.heap.size ≤ w2.heap.size by omega) (.slice ax4 l4.length cx4)).setCell (p := ⟨w2.heap.size, 1, none⟩) (show w1.heap.size ≤ w2.heap.size by omega) (.int .i64 e4)
        have z0 := hT5.c0
        have z1 := hT5.c1
        have hq1 : (e4 != e4) = false := by simp
        have hq2 : ((l4.length : Int) != (l4.length : Int)) = false := by simp
        have HEr := Lib.hid (fun n => Err_any rb a4 c4 l4 e4 _ (hrd5.drewN n))
        have HLe := Lib.hid (fun n => Left_any rb a4 c4 l4 e4 _ (hrd5.drewN n))
        go_wp2_with fail
        generalize (w4.setCell ⟨w2.heap.size, 0, none⟩ (.slice ax4 l4.length cx4)).setCell ⟨w2.heap.size, 1, none⟩ (.int .i64 e4) = W5 at *
        clear y0 y1 y2 hT4 hrd4 hxs4 hg4 x0 x1 hT hrd hxs hc1 hc2
        go_quiet (first | (go_at_call 6; exact Calls.quiet_of_same (HEr.out _)) | (go_at_call 7; exact Calls.quiet_of_same (HLe.out _)))
        go_wp2
        go_roundw
        case rel => exact ⟨k + 1, a4, c4, ax4, cx4, l4, e4, by omega, by go_num, hrd5.drewN _, hT5.below (B := W5.heap.size) (below_drewN3 (Below.refl _ _) _) hT5.lt, hxs5.below (below_drewN3 (Below.refl _ _) _), hlow4, below_drewN3 hn5 _⟩
        case measure => simp [intOf]; omega
    · obtain rfl : k = ln := by omega
      have hcv1 := src_string (HS1.out _ hnx)
      have hcv2 := src_string (HSB.out _ hnw)
      have hsw := hnw.size
      clear hrd hT hxs
      go_wp2_with (go_at_call 8; refine (awake_any w.heap.size _ hsw (hv.on hnw)).mono ?_; rintro e wA ⟨rfl, hbA⟩; refine Hid.out ?_)
      refine Lib.hid ?_
      go_wp2
      go_ret
      exact ⟨rfl, hnw.trans (hbA.mono hsw)⟩

end Go.Proofs.YtfaijnghiamgoaaDoor
