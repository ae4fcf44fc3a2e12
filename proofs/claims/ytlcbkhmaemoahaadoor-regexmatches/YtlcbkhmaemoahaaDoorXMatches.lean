/-
  The reference's Like; RegexMatches: any text is like any pattern just if the document says so.
-/
import Derived.Test.YtlcbkhmaemoahaaDoorXEndsAll
import Derived.Test.YtlcbkhmaemoahaaDoorXChecks
namespace Go.Proofs.YtlcbkhmaemoahaaDoor
open Go.RowKit

theorem tells_true {A : Prop} {e : Ending} (h : Tells A e) (hA : A) : e = .returned (.bool true) := by
  obtain ⟨b, h1, h2⟩ := h
  rw [h1, h2.2 hA]
theorem tells_false {A : Prop} {e : Ending} (h : Tells A e) (hA : ¬ A) : e = .returned (.bool false) := by
  obtain ⟨b, h1, h2⟩ := h
  rw [h1, Bool.eq_false_iff.2 fun k => hA (h2.1 k)]

set_option maxRecDepth 20000 in
set_option maxHeartbeats 2000000 in
theorem eLike_err (s t : ByteArray) (w : World) (he : errE s.data.toList ≠ 0) :
    Calls Tryd.prog 13 #[.string s, .string t] w fun e w' => e = .returned (.tuple #[.bool false, .int .i64 (errE s.data.toList)]) ∧ Below w.heap.size w w' := by
  have HP : Hid (PErr s w (errE s.data.toList)) := Lib.hid (eParse_err s w he)
  unfold PErr at HP
  have hb : ((errE s.data.toList : Int) != 0) = true := by simpa using he
  generalize errE s.data.toList = E at *
  have kz := zero_tree
  have kn := treeC_size
  clear he
  go_enter Tryd.func13, Tryd.ntmps13
  go_wp2_with (go_at_call 11; refine HP.out.mono ?_; rintro e w1 ⟨⟨tt, rfl⟩, hb1⟩; refine Hid.out ?_)
  refine Lib.hid ?_
  have ks0 := store_last w1 w1.heap.size rfl (noT 0) tt
  have hb2 := hb1.alloc hb1.size (.cells (treeC tt) 30)
  go_wp2
  go_ret2
  exact ⟨rfl, hb2⟩

set_option maxRecDepth 20000 in
set_option maxHeartbeats 2000000 in
theorem eLike_ok (s t : ByteArray) (w : World) (hs : s.size ≤ 64) (A : Lang) (ho : pParse s.data.toList = some A) (ht : t.size ≤ 1000) :
    Calls Tryd.prog 13 #[.string s, .string t] w fun e w' => Tells2 (A t.data.toList) e ∧ Below w.heap.size w w' := by
  have HP := Lib.hid (eParse_ok s w hs A ho)
  have kz := zero_tree
  have kn := treeC_size
  clear ho hs
  go_enter Tryd.func13, Tryd.ntmps13
  go_wp2_with (go_at_call 11; refine HP.out.mono ?_; rintro e w1 ⟨⟨tt, rfl, d, hd⟩, hb1⟩; refine Hid.out ?_)
  refine Lib.hid ?_
  have ks0 := store_last w1 w1.heap.size rfl (noT 0) tt
  have hb2 := hb1.alloc hb1.size (.cells (treeC tt) 30)
  have t2 := TreeBlk.new w1 tt
  have HM := Lib.hid (eMatch_any t tt A d (w1.alloc (.cells (treeC tt) 30)) ht (Den.keep (fun b hb => Below.heap_alloc w1 _ b hb.2) (fun b hb => by have := hb.2; simp; omega) d _ _ hd))
  clear hd HP
  go_wp2_with (first | (with_reducible change wpList Tryd.prog _ _ (_ :: _) _ _; refine wpList_load_tree rfl _ rfl _ rfl t2 ?_) | (go_at_call 32; refine HM.out.mono ?_; rintro e w3 ⟨⟨b, rfl, hb⟩, q3⟩; have HB := Lib.hid hb; clear hb))
  go_ret2
  exact ⟨⟨b, rfl, HB.out⟩, hb2.trans (q3.mono hb2.size)⟩

set_option maxRecDepth 20000 in
set_option maxHeartbeats 4000000 in
theorem matches_walk (s t : ByteArray) (w : World) (htab : TabW w) : Calls Tryd.prog 4 #[.string s, .string t] w fun e w' => e = .returned (.bool true) ∧ Below w.heap.size w w' := by
  have htl := htab.lt
  have HW := Lib.hid (fun u (hu : TabW u) => awake_any u hu)
  by_cases h1 : 200 < s.size
  · have h1' : (200 : Int) < (s.size : Int) := by omega
    have HA := Lib.hid (awake_any w htab)
    go_enter Tryd.func4, Tryd.ntmps4
    go_wp2_with (go_at_call 9; refine HA.out.mono ?_; rintro e w1 ⟨rfl, hb1⟩)
    go_ret
    exact ⟨rfl, hb1⟩
  have h1' : ¬ (200 : Int) < (s.size : Int) := by omega
  by_cases h2 : 60 < t.size
  · have h2' : (60 : Int) < (t.size : Int) := by omega
    have HA := Lib.hid (awake_any w htab)
    go_enter Tryd.func4, Tryd.ntmps4
    go_wp2_with (go_at_call 9; refine HA.out.mono ?_; rintro e w1 ⟨rfl, hb1⟩)
    go_ret
    exact ⟨rfl, hb1⟩
  have h2' : ¬ (60 : Int) < (t.size : Int) := by omega
  have HN := Lib.hid (fun u => match_nil t u)
  by_cases he : errE s.data.toList = 0
  · obtain ⟨h64, A, hA⟩ := errE_zero he
    have h64' : s.size ≤ 64 := by simpa using h64
    have H1 := Lib.hid (like_good s t w h64' htab A hA (by omega))
    have H2 := Lib.hid (fun u => eLike_ok s t u h64' A hA (by omega))
    have H3 := Lib.hid (fun u (hu : TabW u) => comp_good s u h64' hu A hA)
    have H4 := Lib.hid (fun xb u (hp : PatAt u xb A) (hu : TabW u) => match_pat xb A t u hp (by omega) hu)
    clear hA he h64 h64' h1 h2
    go_enter Tryd.func4, Tryd.ntmps4
    go_wp2_with (go_at_call 12; refine H1.out.mono ?_; rintro e w1 ⟨⟨x1, rfl, hx1⟩, b1⟩; refine Hid.out ?_)
    refine Lib.hid ?_
    have X1 := Lib.hid hx1
    clear hx1 H1
    go_wp2_with (go_at_call 13; refine (H2.out w1).mono ?_; rintro e w2 ⟨⟨x2, rfl, hx2⟩, q2⟩; refine Hid.out ?_)
    refine Lib.hid ?_
    obtain rfl : x1 = x2 := by
      have k := X1.out.trans hx2.symm
      cases x1 <;> cases x2 <;> simp_all
    have b2 := b1.trans (q2.mono b1.size)
    have H3' := Lib.hid (H3.out w2 (htab.on b2 htl))
    clear hx2 q2 H2 H3 b1
    go_wp2_with (go_at_call 10; refine H3'.out.mono ?_; rintro e w3 ⟨xb, rfl, hp, q3⟩; refine Hid.out ?_)
    refine Lib.hid ?_
    have b3 := b2.trans (q3.mono b2.size)
    have H4' := Lib.hid (H4.out xb w3 hp (htab.on b3 htl))
    have HN' := Lib.hid (HN.out w3)
    have HW' := Lib.hid (HW.out w3 (htab.on b3 htl))
    clear q3 H3' H4 b2 hp
    cases x1 with
    | true =>
      go_wp2_with (first | (go_at_call 9; refine HW'.out.mono ?_; rintro e w6 ⟨rfl, q6⟩) | (go_at_call_of 14 (Value.pointer none); refine HN'.out.mono ?_; rintro e w5 ⟨rfl, rfl⟩) | (go_at_call 14; refine H4'.out.mono ?_; rintro e w4 ⟨ht4, rfl⟩; obtain rfl := tells_true ht4 (X1.out.1 rfl); clear ht4))
      go_ret
      exact ⟨rfl, b3.trans (q6.mono b3.size)⟩
    | false =>
      go_wp2_with (first | (go_at_call 9; refine HW'.out.mono ?_; rintro e w6 ⟨rfl, q6⟩) | (go_at_call_of 14 (Value.pointer none); refine HN'.out.mono ?_; rintro e w5 ⟨rfl, rfl⟩) | (go_at_call 14; refine H4'.out.mono ?_; rintro e w4 ⟨ht4, rfl⟩; obtain rfl := tells_false ht4 (fun k => Bool.false_ne_true (X1.out.2 k)); clear ht4))
      go_ret
      exact ⟨rfl, b3.trans (q6.mono b3.size)⟩
  · have H1 := Lib.hid (like_err s t w htab he)
    have H2 := Lib.hid (fun u => eLike_err s t u he)
    have H3 := Lib.hid (fun u (hu : TabW u) => comp_err s u hu he)
    rcases errE_vals _ he with e5 | e5
    all_goals
      rw [e5] at H1 H2 H3
      clear he e5 h1 h2
      go_enter Tryd.func4, Tryd.ntmps4
      go_wp2_with (go_at_call 12; refine H1.out.mono ?_; rintro e w1 ⟨rfl, b1⟩; refine Hid.out ?_)
      refine Lib.hid ?_
      go_wp2_with (go_at_call 13; refine (H2.out w1).mono ?_; rintro e w2 ⟨rfl, q2⟩; refine Hid.out ?_)
      refine Lib.hid ?_
      have b2 := b1.trans (q2.mono b1.size)
      have H3' := Lib.hid (H3.out w2 (htab.on b2 htl))
      go_wp2_with (go_at_call 10; refine H3'.out.mono ?_; rintro e w3 ⟨rfl, q3⟩; refine Hid.out ?_)
      refine Lib.hid ?_
      have b3 := b2.trans (q3.mono b2.size)
      have HN' := Lib.hid (HN.out w3)
      have HW' := Lib.hid (HW.out w3 (htab.on b3 htl))
      clear H1 H2 H3 H3' b1 b2 q2 q3
      go_wp2_with (first | (go_at_call 9; refine HW'.out.mono ?_; rintro e w6 ⟨rfl, q6⟩) | (go_at_call 14; refine HN'.out.mono ?_; rintro e w5 ⟨rfl, rfl⟩))
      go_ret
      exact ⟨rfl, b3.trans (q6.mono b3.size)⟩

end Go.Proofs.YtlcbkhmaemoahaaDoor
