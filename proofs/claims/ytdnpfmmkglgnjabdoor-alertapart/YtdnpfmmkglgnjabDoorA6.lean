/-
  What Drop of package alert does: a range over the map in whose round entries are struck.
-/
import Derived.Test.YtdnpfmmkglgnjabDoorA3
namespace Go.Proofs.YtdnpfmmkglgnjabDoor
open Go.RowKit Go.Maps

/-- What is there while the range is under way: what stays, and what is still to come. -/
def keepS (S : List Rw) (before : Int) (left : Lit → Bool) : List Rw := S.filter fun r => !decide (r.en < before) || left (.string r.key)
/-- What Drop leaves. -/
def dropS (S : List Rw) (before : Int) : List Rw := S.filter fun r => !decide (r.en < before)
theorem keep_start (S : List Rw) (before : Int) : keepS S before (Maps.has (datum S)) = S := by
  unfold keepS
  refine List.filter_eq_self.2 fun r hr => ?_
  rw [datum_has, Bool.or_eq_true]
  exact .inr (List.any_eq_true.2 ⟨r, hr, by simp⟩)
theorem keep_end {S : List Rw} {before : Int} {left : Lit → Bool} (h : ∀ kl, left kl = false) : keepS S before left = dropS S before := by
  unfold keepS dropS
  refine List.filter_congr fun r _ => ?_
  rw [h, Bool.or_false]
theorem same_str (a b : List UInt8) : (Lit.string a).sameKey (.string b) = (a == b) := rfl
theorem keep_struck {S : List Rw} {before : Int} {left : Lit → Bool} (hR : Rising S) {x : Rw} (hx : x ∈ S) (hd : x.en < before) :
    (keepS S before left).filter (fun y => !(y.key == x.key)) = keepS S before (fun z => left z && !z.sameKey (.string x.key)) := by
  unfold keepS
  rw [List.filter_filter]
  refine List.filter_congr fun r hr => ?_
  simp only [same_str]
  by_cases e : r.key = x.key
  · obtain rfl := key_inj hR hr hx e
    simp [hd]
  · have e' : (r.key == x.key) = false := beq_eq_false_iff_ne.2 e
    simp [e']
theorem keep_stays {S : List Rw} {before : Int} {left : Lit → Bool} (hR : Rising S) {x : Rw} (hx : x ∈ S) (hd : ¬ x.en < before) :
    keepS S before left = keepS S before (fun z => left z && !z.sameKey (.string x.key)) := by
  unfold keepS
  refine List.filter_congr fun r hr => ?_
  simp only [same_str]
  by_cases e : r.key = x.key
  · obtain rfl := key_inj hR hr hx e
    simp [hd]
  · have e' : (r.key == x.key) = false := beq_eq_false_iff_ne.2 e
    simp [e']
theorem struck_len : ∀ {S : List Rw} {x : Rw}, Rising S → x ∈ S → (S.filter fun y => !(y.key == x.key)).length + 1 = S.length
  | y :: l, x, hR, hx => by
    have hl := (List.pairwise_cons.1 hR).2
    rcases List.mem_cons.1 hx with rfl | hx'
    · have : (l.filter fun y => !(y.key == x.key)) = l := List.filter_eq_self.2 fun r hr => by
        have := (List.pairwise_cons.1 hR).1 r hr
        simp only [Bool.not_eq_true', beq_eq_false_iff_ne]
        intro e
        rw [e] at this
        exact key_irrefl _ this
      rw [List.filter_cons]
      simp [this]
    · have hlt := (List.pairwise_cons.1 hR).1 x hx'
      have hne : (y.key == x.key) = false := by
        rw [beq_eq_false_iff_ne]
        intro e
        rw [e] at hlt
        exact key_irrefl _ hlt
      have ih := struck_len hl hx'
      rw [List.filter_cons, hne]
      simp only [Bool.not_false, if_true, List.length_cons]
      omega

set_option maxRecDepth 100000 in
set_option maxHeartbeats 4000000 in
theorem aDrop_any (sb bm : Nat) (S : List Rw) (before : Int) (w : World) (h : StAt w sb bm S) (hn : S.length ≤ 64) :
    Calls Tryd.prog 14 #[.pointer (some ⟨sb, 0, none⟩), .int .i64 before] w fun e w' => e = .returned (.int .i64 ((S.length : Int) - ((dropS S before).length : Int))) ∧ w.grownBy w' (some bm) ∧ StAt w' sb bm (dropS S before) := by
  have hR := h.2.1.rising
  have c0 := h.1.c0
  have hm := h.2.1
  have HH := Lib.hid h
  have hsb : sb < w.heap.size := ltA h.1
  have hbm : bm < w.heap.size := h.2.1.lt
  have hne := h.ne
  clear h
  go_enter Tryd.func14, Tryd.ntmps14
  go_wp2_with (first
    | (at_range; refine wpList_range_st _ rfl _ rfl bm S rfl hm ?_; intro w0 hrg0 hg0 hs0)
    | go_in)
  go_frame
  go_loopw [5] (fun d wr => ∃ (left : Lit → Bool) (cnt k : Nat), k ≤ 64 ∧ d = .int .i64 k ∧ Hid ((k : Int) = (S.length : Int) - ((keepS S before left).length : Int) ∧ StRange wr bm w.heap.size (keepS S before left) left cnt ∧ w.grownBy wr (some bm)))
    (fun _ wr => wr.rangeLeft bm w.heap.size)
  case atStart => exact ⟨_, _, 0, by omega, rfl, Lib.hid ⟨by rw [keep_start]; omega, by rw [keep_start]; exact hrg0, hg0.but _⟩⟩
  case round =>
    obtain ⟨left, cnt, k, hk, rfl, HK⟩ := hrel
    clear hm c0
    have hrg := HK.out.2.1
    go_wp2_with (first
      | (at_next; refine wpList_next_st _ rfl _ rfl bm w.heap.size (keepS S before left) left cnt rfl hrg ?_ ?_)
      | go_in)
    · intro _ hl0
      have HF : Hid ((k : Int) = (S.length : Int) - ((dropS S before).length : Int) ∧ w.grownBy wr (some bm) ∧ StAt wr sb bm (dropS S before)) := Lib.hid ⟨by rw [← keep_end hl0]; exact HK.out.1, HK.out.2.2, by
        rw [← keep_end hl0]
        exact HH.out.turn HK.out.2.2 hrg.map fun r hr => .inl (List.mem_filter.1 hr).1⟩
      clear hrg HK hl0
      go_wp2
      go_ret
      exact ⟨by rw [← HF.out.1]; rfl, HF.out.2⟩
    · intro x w1 cnt1 hx hlx hrg1 hlt hg1 hs1 hen
      have hxS : x ∈ S := (List.mem_filter.1 hx).1
      have HKl := Lib.hid (akey_len (alE_zero (HH.out.2.2 x hxS).2).1)
      have hgw1 := HK.out.2.2.andThen hg1 (fun j hj => by cases hj; exact Or.inl (Nat.le_refl _))
      have g2 := World.grownBy_alloc w1 (.cells #[.slice x.ad x.ps.length x.cp, .int .i64 x.st, .int .i64 x.en] 25) none
      have hrg2 := hrg1.kept g2 (by simp) (by simp)
      have hgw2 := hgw1.andThen g2 (fun j hj => by cases hj)
      have hsb1 : sb < w1.heap.size := Nat.lt_of_lt_of_le hsb hgw1.size
      have c0 : w1.cell? ⟨sb, 0, none⟩ = some (.map (some bm)) := (HH.out.1.kept hgw1 (fun e => hne (Option.some.inj e))).c0
      have c1 : (w1.alloc (.cells #[.slice x.ad x.ps.length x.cp, .int .i64 x.st, .int .i64 x.en] 25)).cell? ⟨sb, 0, none⟩ = some (.map (some bm)) := (HH.out.1.kept hgw2 (fun e => hne (Option.some.inj e))).c0
      have HG2 := Lib.hid hgw2
      have HX := Lib.hid (And.intro hx (And.intro hxS hlx))
      have HM := Lib.hid (And.intro hrg.left_eq hlt)
      have HRG2 := Lib.hid hrg2
      clear hx hxS hlx hg1 hs1 hgw1 g2 hgw2 hsb1 hrg hrg1 hlt
      by_cases hd : x.en < before
      · go_wp2_with (first
          | (at_delete; refine wpList_delete_st _ rfl _ _ rfl bm w.heap.size _ _ _ rfl hrg2 x.key HKl.out rfl ?_; intro w3 cnt3 hrg3 hle hg3 hs3; refine Hid.out ?_)
          | go_in)
        refine Lib.hid ?_
        obtain ⟨hx, hxS, hlx⟩ := HX.out
        have hlen := struck_len HRG2.out.map.rising hx
        rw [keep_struck hR hxS hd, strike_twice] at hrg3
        rw [keep_struck hR hxS hd] at hlen
        have HL : Hid (((k + 1 : Nat) : Int) = (S.length : Int) - ((keepS S before (fun z => left z && !z.sameKey (.string x.key))).length : Int)) := Lib.hid (by have := HK.out.1; omega)
        have HR3 := Lib.hid hrg3
        have HG3 := Lib.hid (HG2.out.andThen hg3 (fun j hj => by cases hj; exact Or.inr rfl))
        have HME : Hid (w3.rangeLeft bm w.heap.size < wr.rangeLeft bm w.heap.size) := Lib.hid (by rw [hrg3.left_eq, HM.out.1]; have := HM.out.2; omega)
        have hk64 : k + 1 ≤ 64 := by have := HL.out; omega
        clear hrg3 hlen hg3 hs3 hle hrg2 hen c0 c1 HG2 HRG2 hx hxS hlx HX HK HKl
        go_wp2
        go_roundw
        case rel => exact ⟨_, cnt3, k + 1, hk64, by go_num, Lib.hid ⟨HL.out, HR3.out, HG3.out⟩⟩
        case measure => exact HME.out
      · obtain ⟨hx, hxS, hlx⟩ := HX.out
        rw [keep_stays (left := left) hR hxS hd] at hrg2
        have HL : Hid ((k : Int) = (S.length : Int) - ((keepS S before (fun z => left z && !z.sameKey (.string x.key))).length : Int)) := Lib.hid (by rw [← keep_stays hR hxS hd]; exact HK.out.1)
        have HR3 := Lib.hid hrg2
        have HME : Hid ((w1.alloc (.cells #[.slice x.ad x.ps.length x.cp, .int .i64 x.st, .int .i64 x.en] 25)).rangeLeft bm w.heap.size < wr.rangeLeft bm w.heap.size) := Lib.hid (by rw [hrg2.left_eq, HM.out.1]; exact HM.out.2)
        clear hrg2 hx hxS hlx HX HK HKl HRG2 c1
        go_wp2
        go_roundw
        case rel => exact ⟨_, cnt1, k, hk, rfl, Lib.hid ⟨HL.out, HR3.out, HG2.out⟩⟩
        case measure => exact HME.out

end Go.Proofs.YtdnpfmmkglgnjabDoor
