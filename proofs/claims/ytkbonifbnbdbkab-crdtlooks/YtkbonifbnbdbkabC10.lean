/-
  What Forget and Fork of package crdt do.
-/
import Derived.Test.YtkbonifbnbdbkabC6
namespace Go.Proofs.Ytkbonifbnbdbkab
open Go.RowKit Go.Maps

/-- What counts at a time. -/
def viewC (S : List Ent) (now : Int) : List Ent := S.filter fun r => decide (now < r.u)
/-- What is there while the range is under way: what stays, and what is still to come. -/
def keepC (S : List Ent) (now : Int) (left : Lit → Bool) : List Ent := S.filter fun r => decide (now < r.u) || left (.string r.key)
theorem keepC_start (S : List Ent) (now : Int) : keepC S now (Maps.has (datumC S)) = S := by
  unfold keepC
  refine List.filter_eq_self.2 fun r hr => ?_
  rw [datumC_has, Bool.or_eq_true]
  exact .inr (List.any_eq_true.2 ⟨r, hr, by simp⟩)
theorem keepC_end {S : List Ent} {now : Int} {left : Lit → Bool} (h : ∀ kl, left kl = false) : keepC S now left = viewC S now := by
  unfold keepC viewC
  refine List.filter_congr fun r _ => ?_
  rw [h, Bool.or_false]
theorem same_strC (a b : List UInt8) : (Lit.string a).sameKey (.string b) = (a == b) := rfl
theorem keepC_struck {S : List Ent} {now : Int} {left : Lit → Bool} (hR : RisingC S) {x : Ent} (hx : x ∈ S) (hd : ¬ now < x.u) :
    (keepC S now left).filter (fun y => !(y.key == x.k.data.toList)) = keepC S now (fun z => left z && !z.sameKey (.string x.key)) := by
  unfold keepC
  rw [List.filter_filter]
  refine List.filter_congr fun r hr => ?_
  simp only [same_strC]
  by_cases e : r.key = x.key
  · obtain rfl := key_injC hR hr hx e
    have : (r.key == r.k.data.toList) = true := beq_self_eq_true _
    simp [hd, this]
  · have e' : (r.key == x.key) = false := beq_eq_false_iff_ne.2 e
    have e2 : (r.key == x.k.data.toList) = false := e'
    simp [e', e2]
theorem keepC_stays {S : List Ent} {now : Int} {left : Lit → Bool} (hR : RisingC S) {x : Ent} (hx : x ∈ S) (hd : now < x.u) :
    keepC S now left = keepC S now (fun z => left z && !z.sameKey (.string x.key)) := by
  unfold keepC
  refine List.filter_congr fun r hr => ?_
  simp only [same_strC]
  by_cases e : r.key = x.key
  · obtain rfl := key_injC hR hr hx e
    simp [hd]
  · have e' : (r.key == x.key) = false := beq_eq_false_iff_ne.2 e
    simp [e']
theorem viewC_len (S : List Ent) (now : Int) : (viewC S now).length ≤ S.length := List.length_filter_le _ _

set_option maxRecDepth 100000 in
set_option maxHeartbeats 4000000 in
theorem cForget_any (sb bm : Nat) (S : List Ent) (now : Int) (w : World) (h : CAt w sb bm S) :
    Calls Try.prog 20 #[.pointer (some ⟨sb, 0, none⟩), .int .i64 now] w fun e w' => e = .returned (.int .i64 ((S.length : Int) - ((viewC S now).length : Int))) ∧ w.grownBy w' (some bm) ∧ CAt w' sb bm (viewC S now) := by
  have hR := h.2.1.rising
  have c0 := h.1.c0
  have hm := h.2.1
  have HH := Lib.hid h
  have hsb : sb < w.heap.size := h.1.lt
  have hbm : bm < w.heap.size := h.2.1.lt
  have hne := h.ne
  have hn : S.length ≤ 256 := h.2.2.2
  clear h
  go_enter Try.func20, Try.ntmps20
  go_wp2_with (first
    | (at_range; refine wpList_range_c _ rfl _ rfl bm S rfl hm ?_; intro w0 hrg0 hg0 hs0)
    | go_in)
  go_frame
  go_loopw [5] (fun d wr => ∃ (left : Lit → Bool) (cnt k : Nat), k ≤ 256 ∧ d = .int .i64 k ∧ Hid ((k : Int) = (S.length : Int) - ((keepC S now left).length : Int) ∧ CRange wr bm w.heap.size (keepC S now left) left cnt ∧ w.grownBy wr (some bm)))
    (fun _ wr => wr.rangeLeft bm w.heap.size)
  case atStart => exact ⟨_, _, 0, by omega, rfl, Lib.hid ⟨by rw [keepC_start]; omega, by rw [keepC_start]; exact hrg0, hg0.but _⟩⟩
  case round =>
    obtain ⟨left, cnt, k, hk, rfl, HK⟩ := hrel
    clear hm c0
    have hrg := HK.out.2.1
    go_wp2_with (first
      | (at_next; refine wpList_next_c _ rfl _ rfl bm w.heap.size (keepC S now left) left cnt rfl hrg ?_ ?_)
      | go_in)
    · intro _ hl0
      have HF : Hid ((k : Int) = (S.length : Int) - ((viewC S now).length : Int) ∧ w.grownBy wr (some bm) ∧ CAt wr sb bm (viewC S now)) := Lib.hid ⟨by rw [← keepC_end hl0]; exact HK.out.1, HK.out.2.2, by
        rw [← keepC_end hl0]
        exact HH.out.turn HK.out.2.2 hrg.map (fun r hr => HH.out.2.2.1 r (List.mem_filter.1 hr).1) (Nat.le_trans (List.length_filter_le _ _) hn)⟩
      clear hrg HK hl0
      go_wp2
      go_ret
      exact ⟨by rw [← HF.out.1]; rfl, HF.out.2⟩
    · intro x w1 cnt1 hx hlx hrg1 hlt hg1 hs1 hen
      have hxS : x ∈ S := (List.mem_filter.1 hx).1
      have HKl := Lib.hid (key_fits (HH.out.2.2.1 x hxS))
      have hgw1 := HK.out.2.2.andThen hg1 (fun j hj => by cases hj; exact Or.inl (Nat.le_refl _))
      have g2 := World.grownBy_alloc w1 (.cells #[.string x.k, .int .i64 x.t, .int .u16 x.o, .string x.v, .int .i64 x.u] 36) none
      have hrg2 := hrg1.kept g2 (by simp) (by simp)
      have hgw2 := hgw1.andThen g2 (fun j hj => by cases hj)
      have HT := Lib.hid (eCounts_any x now (w1.alloc (.cells #[.string x.k, .int .i64 x.t, .int .u16 x.o, .string x.v, .int .i64 x.u] 36)))
      have HX := Lib.hid (And.intro hx (And.intro hxS hlx))
      have HM := Lib.hid (And.intro hrg.left_eq hlt)
      have HRG2 := Lib.hid (And.intro hrg2 hgw2)
      clear hx hxS hlx hg1 hs1 hgw1 g2 hgw2 hrg hrg1 hlt hrg2
      by_cases hd : now < x.u
      · rw [decide_eq_true hd] at HT
        go_wp2_with (go_at_call 28; refine HT.out.mono ?_; rintro e w3 ⟨rfl, q3⟩; refine Hid.out ?_)
        refine Lib.hid ?_
        obtain ⟨hx, hxS, hlx⟩ := HX.out
        obtain ⟨hrg2, hgw2⟩ := HRG2.out
        have hrg3 := hrg2.kept (gOfC q3 none) (by simp) (by simp)
        rw [keepC_stays (left := left) hR hxS hd] at hrg3
        have HL : Hid ((k : Int) = (S.length : Int) - ((keepC S now (fun z => left z && !z.sameKey (.string x.key))).length : Int)) := Lib.hid (by rw [← keepC_stays hR hxS hd]; exact HK.out.1)
        have HR3 := Lib.hid hrg3
        have HG3 := Lib.hid (hgw2.andThen (gOfC q3 none) (fun j hj => by cases hj))
        have HME : Hid (w3.rangeLeft bm w.heap.size < wr.rangeLeft bm w.heap.size) := Lib.hid (by rw [hrg3.left_eq, HM.out.1]; exact HM.out.2)
        clear hrg2 hgw2 hrg3 q3 hx hxS hlx HX HK HKl HRG2 HT
        go_wp2
        go_roundw
        case rel => exact ⟨_, cnt1, k, hk, rfl, Lib.hid ⟨HL.out, HR3.out, HG3.out⟩⟩
        case measure => exact HME.out
      · have HDd := Lib.hid hd
        rw [decide_eq_false hd] at HT
        go_wp2_with (go_at_call 28; refine HT.out.mono ?_; rintro e w3 ⟨rfl, q3⟩; refine Hid.out ?_)
        refine Lib.hid ?_
        obtain ⟨hrg2, hgw2⟩ := HRG2.out
        have hrg3 := hrg2.kept (gOfC q3 none) (by simp) (by simp)
        have hgw3 := hgw2.andThen (gOfC q3 none) (fun j hj => by cases hj)
        have c1 : w3.cell? ⟨sb, 0, none⟩ = some (.map (some bm)) := (HH.out.1.kept hgw3 (fun e => hne (Option.some.inj e))).c0
        have HG2 := Lib.hid hgw3
        have HRG3 := Lib.hid hrg3
        clear hrg2 hgw2 hgw3 q3 HRG2 HT hen
        go_wp2_with (first
          | (at_delete; refine wpList_delete_c _ rfl _ _ rfl bm w.heap.size _ _ _ rfl hrg3 x.k HKl.out rfl ?_; intro w4 cnt4 hrg4 hle hg4 hs4; refine Hid.out ?_)
          | go_in)
        refine Lib.hid ?_
        obtain ⟨hx, hxS, hlx⟩ := HX.out
        have hlen := struckC HRG3.out.map.rising hx
        rw [keepC_struck hR hxS (by have := HDd.out; omega)] at hrg4
        change CRange w4 bm w.heap.size _ (fun z => (left z && !z.sameKey (.string x.key)) && !z.sameKey (.string x.key)) cnt4 at hrg4
        rw [Maps.strike_twice] at hrg4
        have hrg5 := hrg4
        have hlen2 : (keepC S now (fun z => left z && !z.sameKey (.string x.key))).length + 1 = (keepC S now left).length := by rw [← keepC_struck hR hxS (by have := HDd.out; omega)]; exact hlen
        have HL : Hid (((k + 1 : Nat) : Int) = (S.length : Int) - ((keepC S now (fun z => left z && !z.sameKey (.string x.key))).length : Int)) := Lib.hid (by have := HK.out.1; omega)
        have HR3 := Lib.hid hrg5
        have HG3 := Lib.hid (HG2.out.andThen hg4 (fun j hj => by cases hj; exact Or.inr rfl))
        have HME : Hid (w4.rangeLeft bm w.heap.size < wr.rangeLeft bm w.heap.size) := Lib.hid (by rw [hrg5.left_eq, HM.out.1]; have := HM.out.2; omega)
        have hk64 : k + 1 ≤ 256 := by have := HL.out; omega
        clear hrg3 hrg4 hrg5 hlen hlen2 hg4 hs4 hle c1 HG2 HRG3 hx hxS hlx HX HK HKl
        go_wp2
        go_roundw
        case rel => exact ⟨_, cnt4, k + 1, hk64, by go_num, Lib.hid ⟨HL.out, HR3.out, HG3.out⟩⟩
        case measure => exact HME.out
set_option maxHeartbeats 1000000 in
theorem cFork_any (sb bm : Nat) (S : List Ent) (w : World) (h : CAt w sb bm S) :
    Calls Try.prog 19 #[.pointer (some ⟨sb, 0, none⟩)] w fun e w' => ∃ sx bx, e = .returned (.pointer (some ⟨sx, 0, none⟩)) ∧ CAt w' sx bx S ∧ (w.heap.size ≤ sx ∧ w.heap.size ≤ bx) ∧ Below w.heap.size w w' := by
  have c0 := h.1.c0
  have HC := Lib.hid (cClone_any bm S w h.2.1)
  have HH := Lib.hid h.2.2
  clear h
  go_enter Try.func19, Try.ntmps19
  go_wp2_with (go_at_call 29; refine HC.out.mono ?_; rintro e w1 ⟨rfl, m1, -, q1⟩; refine Hid.out ?_)
  refine Lib.hid ?_
  have d2 := (Below.refl w1.heap.size w1).alloc (Nat.le_refl _) (.cells #[.map (some w.heap.size)] 54)
  have HF : Hid (CAt (w1.alloc (.cells #[.map (some w.heap.size)] 54)) w1.heap.size w.heap.size S ∧ w.heap.size ≤ w1.heap.size ∧ Below w.heap.size w (w1.alloc (.cells #[.map (some w.heap.size)] 54))) := Lib.hid ⟨⟨newE _ _, m1.below d2 m1.lt, HH.out⟩, q1.size, q1.trans (d2.mono q1.size)⟩
  clear m1 q1 d2 HC c0
  go_wp2
  go_ret
  exact ⟨_, _, rfl, HF.out.1, ⟨HF.out.2.1, Nat.le_refl _⟩, HF.out.2.2⟩

end Go.Proofs.Ytkbonifbnbdbkab
