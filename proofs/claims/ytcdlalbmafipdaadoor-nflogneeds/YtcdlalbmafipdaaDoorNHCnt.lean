/-
  The reference's Counts, walked.
-/
import Derived.Test.YtcdlalbmafipdaaDoorNCnt
import Derived.Test.YtcdlalbmafipdaaDoorRef6
import Derived.Test.YtcdlalbmafipdaaDoorTwo
namespace Go.Proofs.YtcdlalbmafipdaaDoor
open Go.RowKit

/-- The reference's reader in a block of its own. -/
structure XR (w : World) (rb : Nat) (a : Option Addr) (c : Nat) (l : List UInt8) (e : Int) : Prop where
  blk : Two w rb 60 (.slice a l.length c) (.int .i64 e)
  xs : XS w a c l e
  low : ∀ q, a = some q → q.block < rb
theorem XR.below {w w' : World} {rb : Nat} {a : Option Addr} {c : Nat} {l : List UInt8} {e : Int} (h : XR w rb a c l e) (hb : Below w.heap.size w w') : XR w' rb a c l e := ⟨h.blk.below hb h.blk.lt, h.xs.below hb, h.low⟩
/-- Another one in its place. -/
theorem XR.put {w : World} {rb : Nat} {a a1 : Option Addr} {c c1 : Nat} {l l1 : List UInt8} {e e1 : Int} (h : XR w rb a c l e) (hs : SrcAt w (.slice a1 l1.length c1) l1) (hc : l1.length ≤ c1) (hm : l1.length ≤ 140737488355328) (he : e1 ≠ 0 → l1 = []) (hl : ∀ q, a1 = some q → ∃ q0, a = some q0 ∧ q.block = q0.block) :
    XR ((w.setCell ⟨rb, 0, none⟩ (.slice a1 l1.length c1)).setCell ⟨rb, 1, none⟩ (.int .i64 e1)) rb a1 c1 l1 e1 := by
  have hl' : ∀ q, a1 = some q → q.block < rb := fun q hq => by
    obtain ⟨q0, h0, h1⟩ := hl q hq
    have := h.low q0 h0
    omega
  have hb : Below rb w ((w.setCell ⟨rb, 0, none⟩ (.slice a1 l1.length c1)).setCell ⟨rb, 1, none⟩ (.int .i64 e1)) := ((Below.refl rb w).setCell (p := ⟨rb, 0, none⟩) (Nat.le_refl _) _).setCell (p := ⟨rb, 1, none⟩) (Nat.le_refl _) _
  exact ⟨(h.blk.set0 _).set1 _, ⟨hs.low hb hl', hc, hm, he⟩, hl'⟩
/-- How many bytes are left, as memory tells it. -/
def leftX (rb : Nat) (w : World) : Nat := match w.cell? ⟨rb, 0, none⟩ with | some (.slice _ n _) => n | _ => 0
theorem XR.leftX {w : World} {rb : Nat} {a : Option Addr} {c : Nat} {l : List UInt8} {e : Int} (h : XR w rb a c l e) : leftX rb w = l.length := by
  unfold Go.Proofs.YtcdlalbmafipdaaDoor.leftX
  rw [h.blk.c0]
theorem two_below {w w' : World} {B rb : Nat} {v1 v2 : Value} (h : Below B w w') (hB : B ≤ rb) : Below B w ((w'.setCell ⟨rb, 0, none⟩ v1).setCell ⟨rb, 1, none⟩ v2) := (h.setCell (p := ⟨rb, 0, none⟩) hB _).setCell (p := ⟨rb, 1, none⟩) hB _

set_option maxHeartbeats 4000000 in
set_option maxRecDepth 100000 in
theorem hCounts_any (s : ByteArray) (w : World) (hs : s.size ≤ 1099511627776) :
    Calls Tryd.prog 46 #[.string s] w fun e w' => e = .returned (.tuple #[.int .i64 (countsP s.data.toList).1, .int .i64 (countsP s.data.toList).2]) ∧ Below w.heap.size w w' := by
  obtain ⟨a1, c1, w1, hcv, hsrc, hc1, ha1, hb1⟩ := bytes_of_string2 w s
  have hs1 := hb1.size
  have hkl : s.data.toList.length = s.size := rfl
  obtain ⟨R, hR⟩ : ∃ R, R = countsP s.data.toList := ⟨_, rfl⟩
  rw [← hR]
  have hst : CntTo s.size (byteE 108 0 s.data.toList).1 (byteE 108 0 s.data.toList).2 0 0 R := ⟨s.data.toList.length + 1, by
    have := byteE_le 108 0 s.data.toList
    omega, by rw [hR]; rfl⟩
  have hl3 := byteE_le 108 0 s.data.toList
  have hX1 : XS w1 (some a1) c1 s.data.toList 0 := ⟨by rw [hkl]; exact hsrc, by omega, by omega, fun h => absurd rfl h⟩
  obtain ⟨l3, e3, hO⟩ : ∃ l3 e3, byteE 108 0 s.data.toList = (l3, e3) := ⟨_, _, rfl⟩
  have herr3 := (byteE_err hO).1
  have HB0 := refByte_full (some a1) c1 s.data.toList 108 0 w1 hX1 hO
  rw [hkl] at HB0
  have HB := Lib.hid HB0
  rw [hO] at hst hl3
  have HST := Lib.hid hst
  have hl3' : l3.length ≤ s.size := by rw [← hkl]; exact hl3
  clear HB0 hsrc hkl hst hR hl3 hX1 hO
  go_enter Tryd.func46, Tryd.ntmps46
  go_wp2_with (go_at_call 27; refine HB.out.mono ?_; rintro e w2 ⟨⟨a2, c2, rfl, hsrc2, hcap2, hlow2⟩, hb2⟩; refine Hid.out ?_)
  refine Lib.hid ?_
  have hs2 := hb2.size
  have hn2 := hb1.trans (hb2.mono hs1)
  have hlow3 : ∀ q, a2 = some q → q.block < w2.heap.size := fun q hq => by
    obtain ⟨q0, hq0, hqb⟩ := hlow2 q hq
    obtain rfl := Option.some.inj hq0
    omega
  have d3 := (Below.refl w2.heap.size w2).alloc (Nat.le_refl _) (.cells #[.slice a2 l3.length c2, .int .i64 e3] 60)
  have HX3 : Hid (XR (w2.alloc (.cells #[.slice a2 l3.length c2, .int .i64 e3] 60)) w2.heap.size a2 c2 l3 e3) := Lib.hid ⟨Two.new _ _ _ _, ⟨hsrc2.below d3 (Nat.le_refl _), hcap2, by omega, herr3⟩, hlow3⟩
  have HN3 := Lib.hid (show Below w.heap.size w (w2.alloc (.cells #[.slice a2 l3.length c2, .int .i64 e3] 60)) from hn2.alloc (by omega) _)
  have hrbw : w.heap.size ≤ w2.heap.size := by omega
  clear HB hcv hb1 hb2 hsrc2 hcap2 hlow2 hlow3 herr3 hn2 d3
  go_wp2
  generalize w2.alloc (.cells #[.slice a2 l3.length c2, .int .i64 e3] 60) = w3 at *
  generalize w2.heap.size = rb at *
  go_loopw [5, 6, 7] (fun v5 v6 v7 wr => ∃ (a b : Nat) (n : Int) (l : List UInt8) (e : Int) (ar : Option Addr) (cr : Nat), v5 = .int .i64 a ∧ v6 = .int .i64 b ∧ v7 = .int .i64 n ∧ Hid (XR wr rb ar cr l e) ∧ Hid (CntTo s.size l e a b R) ∧ Hid (Below w.heap.size w wr) ∧ a + b + l.length ≤ s.size) (fun _ _ _ wr => leftX rb wr)
  case atStart => exact ⟨0, 0, 0, l3, e3, a2, c2, rfl, rfl, rfl, HX3, HST, HN3, by omega⟩
  case round =>
    obtain ⟨a, b, n, l, e, ar, cr, rfl, rfl, rfl, HX, HC, HB, hab⟩ := hrel
    clear HX3 HST HN3
    have hx0 := HX.out.blk.c0
    have hx1 := HX.out.blk.c1
    have hrl := HX.out.blk.lt
    have HMo := Lib.hid (refMore_any ar cr l e wr HX.out.xs.src HX.out.xs.err)
    have HLe := Lib.hid HX.out.leftX
    have hsw := HB.out.size
    by_cases hm : moreB l = true
    · obtain ⟨l1, e1, s1, hT⟩ : ∃ l1 e1 s1, textE s.size e l = (l1, e1, s1) := ⟨_, _, _, rfl⟩
      obtain ⟨l2, e2, n2, hI⟩ : ∃ l2 e2 n2, intE e1 l1 = (l2, e2, n2) := ⟨_, _, _, rfl⟩
      have hlt := textI_less hm hT hI
      have HR := Lib.hid (HC.out.round hm hT hI hlt)
      have HTE := Lib.hid (textE_err hT)
      have HIE := Lib.hid (intE_err hI)
      have HT := Lib.hid (fun W (h : XS W ar cr l e) => refText_full ar cr l e s.size W h hT)
      have HI := Lib.hid hI
      rw [hm] at HMo
      clear hm hT hI HC
      go_wp2_with (go_at_call 58; refine HMo.out.mono ?_; rintro r w4 ⟨rfl, hb4⟩; refine Hid.out ?_)
      refine Lib.hid ?_
      have HX4 := Lib.hid (HX.out.below hb4)
      have HB4 := Lib.hid (HB.out.trans (hb4.mono hsw))
      have hy0 := HX4.out.blk.c0
      have hy1 := HX4.out.blk.c1
      have HT4 := Lib.hid (HT.out w4 HX4.out.xs)
      clear hb4 HMo HT hx0 hx1 HX HB
      go_wp2_with (go_at_call 28; refine HT4.out.mono ?_; rintro r w5 ⟨⟨a5, c5, rfl, hsrc5, hcap5, hlow5⟩, hb5⟩; refine Hid.out ?_)
      refine Lib.hid ?_
      have hx5 := HX4.out.below hb5
      have hl1 := HTE.out.2
      have HX6 := Lib.hid (hx5.put hsrc5 hcap5 (by omega) HTE.out.1 hlow5)
      have HB6 := Lib.hid (two_below (v1 := .slice a5 l1.length c5) (v2 := .int .i64 e1) (HB4.out.trans (hb5.mono HB4.out.size)) hrbw)
      have z0 := hx5.blk.c0
      have z1 := hx5.blk.c1
      have z2 := hx5.blk.fr
      have hrl5 := hx5.blk.lt
      have y0 := HX6.out.blk.c0
      have y1 := HX6.out.blk.c1
      have HI6 := Lib.hid (refInt_full a5 c5 l1 e1 _ HX6.out.xs HI.out)
      clear hx5 hsrc5 hcap5 hlow5 hb5 HT4 hy0 hy1 HX4 HB4 HTE
      go_wp2_with (go_at_call 59; refine HI6.out.mono ?_; rintro r w7 ⟨⟨a7, c7, rfl, hsrc7, hcap7, hlow7⟩, hb7⟩; refine Hid.out ?_)
      refine Lib.hid ?_
      have hx7 := HX6.out.below hb7
      have HX8 := Lib.hid (hx7.put hsrc7 hcap7 (by omega) HIE.out.1 hlow7)
      have HB8 := Lib.hid (two_below (v1 := .slice a7 l2.length c7) (v2 := .int .i64 e2) (HB6.out.trans (hb7.mono HB6.out.size)) hrbw)
      have t0 := hx7.blk.c0
      have t1 := hx7.blk.c1
      have t2 := hx7.blk.fr
      have hrl7 := hx7.blk.lt
      have u1 := HX8.out.blk.c1
      clear hx7 hsrc7 hcap7 hlow7 hb7 HI6 y0 y1 z0 z1 z2 HX6 HB6 HIE HI
      by_cases he2 : e2 = 0
      · have he2b : (e2 != 0) = false := by rw [he2]; rfl
        have HE2 := Lib.hid he2
        clear he2
        by_cases h0 : n2 = 0
        · subst h0
          have HN0 := Lib.hid (HR.out.1 rfl)
          clear HR
          go_wp2
          go_roundw
          case rel => exact ⟨a, b + 1, 0, l2, e2, a7, c7, rfl, by go_num, rfl, HX8, Lib.hid (by have := HN0.out; simpa using this), HB8, by omega⟩
          case measure => rw [HX8.out.leftX, HLe.out]; exact hlt
        · by_cases h1 : n2 = 1
          · subst h1
            have HN1 := Lib.hid (HR.out.2.1 rfl)
            clear HR h0
            go_wp2
            go_roundw
            case rel => exact ⟨a + 1, b, 1, l2, e2, a7, c7, by go_num, rfl, rfl, HX8, Lib.hid (by have := HN1.out; simpa using this), HB8, by omega⟩
            case measure => rw [HX8.out.leftX, HLe.out]; exact hlt
          · have hz0 : (n2 != 0) = true := by simpa using h0
            have hz1 : (n2 != 1) = true := by simpa using h1
            have HRR := Lib.hid (HR.out.2.2.1 h0 h1)
            clear HR h0 h1
            go_wp2
            go_ret2
            exact ⟨by rw [HRR.out]; rfl, HB8.out⟩
      · have he2b : (e2 != 0) = true := by simpa using he2
        have HRR := Lib.hid (HR.out.2.2.2 he2)
        clear HR he2
        go_wp2
        go_ret2
        exact ⟨by rw [HRR.out]; rfl, HB8.out⟩
    · have hm' : moreB l = false := by simpa using hm
      rw [hm'] at HMo
      obtain ⟨l4, e4, hB4⟩ : ∃ l4 e4, byteE 101 e l = (l4, e4) := ⟨_, _, rfl⟩
      have HR := Lib.hid (HC.out.out hm' hB4)
      have HBE := Lib.hid (byteE_err hB4)
      have HBy := Lib.hid (fun W (h : XS W ar cr l e) => refByte_full ar cr l 101 e W h hB4)
      clear hm hm' hB4 HC
      go_wp2_with (go_at_call 58; refine HMo.out.mono ?_; rintro r w4 ⟨rfl, hb4⟩; refine Hid.out ?_)
      refine Lib.hid ?_
      have HX4 := Lib.hid (HX.out.below hb4)
      have HB4 := Lib.hid (HB.out.trans (hb4.mono hsw))
      have hy0 := HX4.out.blk.c0
      have hy1 := HX4.out.blk.c1
      have HT4 := Lib.hid (HBy.out w4 HX4.out.xs)
      clear hb4 HMo HBy hx0 hx1 HX HB
      go_wp2_with (go_at_call 27; refine HT4.out.mono ?_; rintro r w5 ⟨⟨a5, c5, rfl, hsrc5, hcap5, hlow5⟩, hb5⟩; refine Hid.out ?_)
      refine Lib.hid ?_
      have hx5 := HX4.out.below hb5
      have hl1 := HBE.out.2
      have HX6 := Lib.hid (hx5.put hsrc5 hcap5 (by omega) HBE.out.1 hlow5)
      have HB6 := Lib.hid (two_below (v1 := .slice a5 l4.length c5) (v2 := .int .i64 e4) (HB4.out.trans (hb5.mono HB4.out.size)) hrbw)
      have z0 := hx5.blk.c0
      have z1 := hx5.blk.c1
      have z2 := hx5.blk.fr
      have hrl5 := hx5.blk.lt
      have y0 := HX6.out.blk.c0
      have y1 := HX6.out.blk.c1
      clear hx5 hsrc5 hcap5 hlow5 hb5 HT4 hy0 hy1 HX4 HB4 HBE HX6
      by_cases h4 : e4 = 0
      · subst h4
        by_cases hl4 : 0 < l4.length
        · have hl4z : (0 : Int) < (l4.length : Int) := by omega
          have HRR := Lib.hid (HR.out.2.1 rfl hl4)
          clear HR
          go_wp2
          go_ret2
          exact ⟨by rw [HRR.out]; rfl, HB6.out⟩
        · have hl4z : ¬ (0 : Int) < (l4.length : Int) := by omega
          have HRR := Lib.hid (HR.out.2.2 rfl (by omega))
          clear HR
          go_wp2
          go_ret2
          exact ⟨by rw [HRR.out]; rfl, HB6.out⟩
      · have hz4 : (e4 != 0) = true := by simpa using h4
        have HRR := Lib.hid (HR.out.1 h4)
        clear HR h4
        go_wp2
        go_ret2
        exact ⟨by rw [HRR.out]; rfl, HB6.out⟩

end Go.Proofs.YtcdlalbmafipdaaDoor
