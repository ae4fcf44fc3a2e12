/-
  BenPuts, walked: it answers true for every number, text and list of bytes (that fit together), and turns nothing that was there.
-/
import Derived.Test.YtbpniegiaadbeaaDoorRef2
import Derived.Deep.DrawnRows
namespace Go.Proofs.YtbpniegiaadbeaaDoor
open Go.RowKit
attribute [local go_sem ↓] Go.wp_at_zero Go.wp_at_succ

theorem src_string {w : World} {v : Value} {l : List UInt8} (h : SrcAt w v l) : (convert 23 9 v).run Tryd.prog w = .ok (.string ⟨l.toArray⟩) w := by
  rcases h with ⟨rfl, rfl⟩ | ⟨q, c, rfl, hc⟩
  · exact run_convert_bytes_zero w 23 5 Tryd.underlying23 Tryd.underlying5 none 0 9 Tryd.underlying9
  · exact run_convert_bytes_back (P := Tryd.prog) w 23 9 5 q c l Tryd.underlying23 Tryd.underlying5 Tryd.underlying9 hc

theorem eql_str (l : List UInt8) (W : World) : (binOp .eql 9 (.string ⟨l.toArray⟩) (.string ⟨l.toArray⟩)).run Tryd.prog W = .ok (.bool true) W := by
  rw [binOp_string_eql]; simp

theorem drewBelow (w : World) : Below w.heap.size w w.drew := (Below.refl _ _).drew

set_option maxHeartbeats 4000000 in
set_option maxRecDepth 100000 in
theorem puts_walk (n : Int) (s : ByteArray) (q : Option Addr) (c : Nat) (ls : List (List UInt8)) (w : World) (h0 : -9223372036854775808 ≤ n) (h1 : n ≤ 9223372036854775807) (hs : s.size ≤ 140737488351232)
    (hp : PartsAt w q ls) (hln : ls.length ≤ 140737488355328) (hll : ls.flatten.length ≤ 140737488355000) (hv : VarsOk w.heap.size w) :
    Calls Tryd.prog 3 #[.int .i64 n, .string s, .slice q ls.length c] w fun e w' => e = .returned (.bool true) ∧ Below w.heap.size w w' := by
  have hpb : ∀ w', Below w.heap.size w w' → PartsAt w' q ls := fun w' hb hpos => by
    obtain ⟨b, o, e, hc⟩ := hp hpos
    refine ⟨b, o, e, fun i hi => ?_⟩
    obtain ⟨v, hcell, hsrc⟩ := hc i hi
    exact ⟨v, by rw [hb.cell (p := ⟨b, o + i, none⟩) (World.block_lt_of_cell? w _ hcell)]; exact hcell, hsrc.below hb (Nat.le_refl _)⟩
  have HP := Lib.hid hpb
  clear hpb hp
  have he1 := eql_str (putInt n)
  have he2 := eql_str (putText s.data.toList)
  have he3 := eql_str (putList ls)
  generalize hq1 : putInt n = P1 at *
  generalize hq2 : putText s.data.toList = P2 at *
  generalize hq3 : putList ls = P3 at *
  have H1 := Lib.hid hq1
  have H2 := Lib.hid hq2
  have H3 := Lib.hid hq3
  clear hq1 hq2 hq3
  go_enter Tryd.func3, Tryd.ntmps3
  go_wp2
  go_region_with (first
    | (go_at_call 9; refine (Int_val n h0 h1 w.heap.size w.drew (Nat.le_refl _) (hv.on (drewBelow w))).mono ?_; rintro e w1 ⟨a1, k1, c1, rfl, ho1, hb1⟩; have hn1 := (drewBelow w).trans hb1; have hs1 := hn1.size; rw [H1.out] at ho1; have hcv1 := own_string ho1)
    | (go_at_call 10; refine (refInt_any n h0 h1 w1).mono ?_; rintro e w2 ⟨a2, k2, c2, rfl, hsr2, hab2, hb2⟩; have hn2 := hn1.trans (hb2.mono hs1); have hs2 := hn2.size; rw [H1.out] at hsr2; have hcv2 := src_string hsr2; have hcv1b := src_string (ho1.src.below hb2 (Nat.le_refl _)))
    | (go_at_call 11; refine (Text_val s hs w.heap.size w2 hs2 (hv.on hn2)).mono ?_; rintro e w3 ⟨a3, k3, c3, rfl, ho3, hb3⟩; have hn3 := hn2.trans (hb3.mono hs2); have hs3 := hn3.size; rw [H2.out] at ho3; have hcv3 := own_string ho3)
    | (go_at_call 12; refine (refText_any s hs w3).mono ?_; rintro e w4 ⟨a4, k4, c4, rfl, hsr4, hab4, hb4⟩; have hn4 := hn3.trans (hb4.mono hs3); have hs4 := hn4.size; rw [H2.out] at hsr4; have hcv4 := src_string hsr4; have hcv3b := src_string (ho3.src.below hb4 (Nat.le_refl _)))
    | (go_at_call 13; refine (List_val q c ls w4 (HP.out w4 hn4) hln hll ls.length rfl).mono ?_; rintro e w5 ⟨a5, k5, c5, rfl, ho5, hb5⟩; have hn5 := hn4.trans (hb5.mono hs4); have hs5 := hn5.size; rw [H3.out] at ho5; have hcv5 := own_string ho5)
    | (go_at_call 14; refine (refList_any q c ls w5 (HP.out w5 hn5) hln hll).mono ?_; rintro e w6 ⟨a6, k6, c6, rfl, hsr6, hb6⟩; have hn6 := hn5.trans (hb6.mono hs5); have hs6 := hn6.size; rw [H3.out] at hsr6; have hcv6 := src_string hsr6; have hcv5b := src_string (ho5.src.below hb6 (Nat.le_refl _)))
    | (go_at_call 15; refine (awake_any w.heap.size w6 hs6 (hv.on hn6)).mono ?_; rintro e w7 ⟨rfl, hb7⟩))
  all_goals go_wp2
  all_goals go_ret
  all_goals exact ⟨rfl, hn6.trans (hb7.mono hs6)⟩

end Go.Proofs.YtbpniegiaadbeaaDoor
