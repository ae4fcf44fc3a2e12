/-
  BenNested, walked: it answers true for every few numbers and every short text, and turns nothing that was there.
-/
import Derived.Test.YtbpniegiaadbeaaDoorParts
import Derived.Deep.RegionHeld3
namespace Go.Proofs.YtbpniegiaadbeaaDoor
open Go.RowKit

theorem putInt_len (n : Int) (h0 : -9223372036854775808 ≤ n) (h1 : n ≤ 9223372036854775807) : (putInt n).length ≤ 22 := by
  have := itoa_len20 n h0 h1
  simp [putInt]; omega
theorem putInts_len : ∀ (zs : List Int), (∀ x ∈ zs, -9223372036854775808 ≤ x ∧ x ≤ 9223372036854775807) → (zs.map putInt).flatten.length ≤ 22 * zs.length
  | [], _ => by simp
  | z :: zs, h => by
    have h1 := putInt_len z (h z (List.mem_cons_self ..)).1 (h z (List.mem_cons_self ..)).2
    have h2 := putInts_len zs (fun x hx => h x (List.mem_cons_of_mem _ hx))
    simp only [List.map_cons, List.flatten_cons, List.length_append, List.length_cons]
    omega
theorem putText_len (s : List UInt8) (h : s.length ≤ 140737488351232) : (putText s).length ≤ s.length + 22 := by
  have := itoa_len20 s.length (by omega) (by omega)
  simp [putText]; omega

/-- What is left behind k numbers of the inner list. -/
def leftAt (zs : List Int) (s : List UInt8) (n : Int) (k : Nat) : List UInt8 := ((zs.drop k).map putInt).flatten ++ (101 :: (putText s ++ (putInt n ++ [101])))
theorem left_all (zs : List Int) (s : List UInt8) (n : Int) : putList [putList (zs.map putInt), putText s, putInt n] = 108 :: 108 :: leftAt zs s n 0 := by
  simp [putList, leftAt]
theorem left_next (zs : List Int) (s : List UInt8) (n : Int) (k : Nat) (h : k < zs.length) : leftAt zs s n k = putInt zs[k] ++ leftAt zs s n (k + 1) := by
  unfold leftAt
  rw [List.drop_eq_getElem_cons h]
  simp only [List.map_cons, List.flatten_cons, List.append_assoc]
theorem left_end (zs : List Int) (s : List UInt8) (n : Int) : leftAt zs s n zs.length = 101 :: (putText s ++ (putInt n ++ [101])) := by
  simp [leftAt]

theorem rInt_put (rb : Nat) (a : Option Addr) (c : Nat) (z : Int) (r : List UInt8) (B : Nat) (w : World) (h : Rd w rb a c (putInt z ++ r) 0) (h0 : -9223372036854775808 ≤ z) (h1 : z ≤ 9223372036854775807) (hB : B ≤ rb) (hv : VarsOk B w) :
    Calls Tryd.prog 22 #[.pointer (some ⟨rb, 0, none⟩)] w fun e w' => e = .returned (.int .i64 z) ∧ (∃ a c, Rd w' rb a c r 0) ∧ w.grownBy w' (some rb) := by
  have := rInt_any rb a c _ B w h hB hv
  rw [read_putInt z h0 h1] at this
  exact this
theorem rText_put (rb : Nat) (a : Option Addr) (c : Nat) (s r : List UInt8) (most : Int) (B : Nat) (w : World) (h : Rd w rb a c (putText s ++ r) 0) (hs : s.length ≤ 1000000000) (hm : (s.length : Int) ≤ most) (hB : B ≤ rb) (hv : VarsOk B w) :
    Calls Tryd.prog 23 #[.pointer (some ⟨rb, 0, none⟩), .int .i64 most] w fun e w' => e = .returned (.string ⟨s.toArray⟩) ∧ (∃ a c, Rd w' rb a c r 0) ∧ w.grownBy w' (some rb) := by
  have := rText_any rb a c _ most B w h hB hv
  rw [read_putText s hs most hm] at this
  exact this
theorem Rd.drew {w : World} {rb : Nat} {a : Option Addr} {c : Nat} {l : List UInt8} {e : Int} (h : Rd w rb a c l e) : Rd w.drew rb a c l e := h.drewN 1
theorem VarsOk.drew {B : Nat} {w : World} (h : VarsOk B w) : VarsOk B w.drew := h.on (Below.refl _ _).drew

theorem more_int (n : Int) (r : List UInt8) : moreB (putInt n ++ r) = true := by simp [putInt, moreB]

set_option maxHeartbeats 2000000 in
set_option maxRecDepth 100000 in
theorem nested_walk (a : Option Addr) (zs : List Int) (c : Nat) (s : ByteArray) (n : Int) (w : World) (hz : ∀ x ∈ zs, -9223372036854775808 ≤ x ∧ x ≤ 9223372036854775807) (hn0 : -9223372036854775808 ≤ n) (hn1 : n ≤ 9223372036854775807)
    (hzl : zs.length ≤ 1048576) (hs : s.size ≤ 1048576) (ha : IntsAt w a zs) (hv : VarsOk w.heap.size w) :
    Calls Tryd.prog 8 #[.slice a zs.length c, .string s, .int .i64 n] w fun e w' => e = .returned (.bool true) ∧ Below w.heap.size w w' := by
  obtain ⟨i0, hi, hi0, hi1, hi2⟩ := info_parts infoBytes
  have HZ := Lib.hid hz
  clear hz
  go_enter Tryd.func8, Tryd.ntmps8
  go_wp2
  go_loopw [7, 8] (fun v i wr => ∃ (k : Nat) (a7 : Option Addr) (n7 c7 : Nat) (vs : List Value), k ≤ zs.length ∧ i = .int .i64 k ∧ v = .slice a7 n7 c7 ∧ RowOf wr w.heap.size (.slice a7 n7 c7) vs ((zs.take k).map putInt) ∧ Below w.heap.size w wr) (fun _ i _ => zs.length - (intOf i).toNat)
  case atStart => exact ⟨0, none, 0, 0, [], Nat.zero_le _, rfl, rfl, RowOf.nil _ _, Below.refl _ _⟩
  case round =>
    obtain ⟨k, a7, n7, c7, vs, hk, rfl, rfl, hrow, hnx⟩ := hrel
    have hs1 := hnx.size
    by_cases hlt : k < zs.length
    · obtain ⟨b, o, rfl, hc⟩ := (ha.below hnx (Nat.le_refl _)) k hlt
      have hzk := HZ.out zs[k] (List.getElem_mem _)
      have hlen := hrow.len
      simp only [List.length_map, List.length_take] at hlen
      have hmap : (zs.take (k + 1)).map putInt = (zs.take k).map putInt ++ [putInt zs[k]] := by
        rw [List.take_succ_eq_append_getElem hlt, List.map_append]; rfl
      have HM := Lib.hid hmap
      clear hmap
      generalize zs[k] = z at *
      have hvr := hv.on hnx
      go_wp2_with (go_at_call 9; refine (Int_val z hzk.1 hzk.2 w.heap.size _ hs1 hvr).mono ?_; rintro e w1 ⟨a1, k1, c1, rfl, ho1, hb1⟩; refine Hid.out ?_)
      refine Lib.hid ?_
      have hs2 := hb1.size
      have hown1 := (hrow.below hb1).own
      go_wp2_with (at_builtin; refine wpList_append_own_at _ rfl _ _ 22 rfl w.heap.size 23 i0 (.slice none 0 0) 1 24 Tryd.underlying22 hi hi0 hi1 hi2 rfl (by decide) _ _ _ rfl (hown1.alloc _) ⟨w1.heap.size, 0, none⟩ 1 1 [Value.slice a1 k1 c1] rfl rfl (cell_one_new _ _ _) (by intro u' hu'; simp at hu'; subst hu'; rfl) (by unfold maxLen; omega) (by omega) (by simp; omega) ?_; refine Hid.out ?_)
      refine Lib.hid ?_
      intro v2 w2 hown2 hgrow _ hat
      have hvl : vs.length = k := by omega
      have hrow2 := hrow.step hb1 ho1 (by rw [hvl]; exact hown2) hgrow hat
      have hnx2 : Below w.heap.size w w2 := ((hnx.trans (hb1.mono hs1)).alloc (by omega) _).grown hgrow (by simp; omega) (fun j hj => (hrow.own.lt j hj).1)
      obtain ⟨a2, n2, c2, hv2⟩ : ∃ a n c, v2 = .slice a n c := by
        rcases hown2.2 with ⟨rfl, -⟩ | ⟨g, cap, cur, rfl, -, -, -, -, -, -⟩ <;> exact ⟨_, _, _, rfl⟩
      rw [hv2] at hrow2 ⊢
      go_wp2
      go_roundw
      case rel => exact ⟨k + 1, a2, n2, c2, vs ++ [.slice a1 k1 c1], by omega, by go_num, rfl, by rw [HM.out]; exact hrow2, hnx2⟩
      case measure => simp [intOf]; omega
    · have hkz : k = zs.length := by omega
      have hrow' : RowOf wr w.heap.size (.slice a7 n7 c7) vs (zs.map putInt) := by rw [hkz, List.take_length] at hrow; exact hrow
      obtain ⟨hn7, hparts⟩ := hrow'.parts
      have hpl := putInts_len zs HZ.out
      have hvr := hv.on hnx
      have HN7 := Lib.hid hn7
      clear hrow hrow' hn7
      have HP := Lib.hid (List_val a7 c7 (zs.map putInt) wr hparts (by simp; omega) (by omega) n7 HN7.out)
      clear hparts
      go_wp2_with (go_at_call 13; refine HP.out.mono ?_; rintro e w1 ⟨a1, k1, c1, rfl, ho1, hb1⟩; refine Hid.out ?_)
      refine Lib.hid ?_
      have hs2 := hb1.size
      have hv1 := hvr.on (hb1.mono hs1)
      go_wp2_with (go_at_call 11; refine (Text_val s (by omega) w.heap.size _ (by omega) hv1).mono ?_; rintro e w2 ⟨a2, k2, c2, rfl, ho2, hb2⟩; refine Hid.out ?_)
      refine Lib.hid ?_
      have hs3 := hb2.size
      have hv2 := hv1.on (hb2.mono (by omega))
      go_wp2_with (go_at_call 9; refine (Int_val n hn0 hn1 w.heap.size _ (by omega) hv2).mono ?_; rintro e w3 ⟨a3, k3, c3, rfl, ho3, hb3⟩; refine Hid.out ?_)
      refine Lib.hid ?_
      have hs4 := hb3.size
      have hv3 := hv2.on (hb3.mono (by omega))
      have hsrc1 := (ho1.src.below hb2 (Nat.le_refl _)).below hb3 (Nat.le_refl _)
      have hsrc2 := ho2.src.below hb3 (Nat.le_refl _)
      have hsrc3 := ho3.src
      have hp : PartsAt (w3.alloc (.cells #[.slice a1 k1 c1, .slice a2 k2 c2, .slice a3 k3 c3] 23)) (some ⟨w3.heap.size, 0, none⟩) [putList (zs.map putInt), putText s.data.toList, putInt n] := fun _ => ⟨_, 0, rfl, fun i hi => by
        have hbb : Below w3.heap.size w3 (w3.alloc (.cells #[.slice a1 k1 c1, .slice a2 k2 c2, .slice a3 k3 c3] 23)) := (Below.refl _ _).alloc (Nat.le_refl _) _
        match i, hi with
        | 0, _ => exact ⟨_, by simp, hsrc1.below hbb (Nat.le_refl _)⟩
        | 1, _ => exact ⟨_, by simp, hsrc2.below hbb (Nat.le_refl _)⟩
        | 2, _ => exact ⟨_, by simp, hsrc3.below hbb (Nat.le_refl _)⟩⟩
      have htot : [putList (zs.map putInt), putText s.data.toList, putInt n].flatten.length ≤ 100000000 := by
        have h3 : s.data.toList.length = s.size := rfl
        have h1 := putText_len s.data.toList (by rw [h3]; omega)
        have h2 := putInt_len n hn0 hn1
        simp only [List.flatten_cons, List.flatten_nil, List.append_nil, List.length_append, putList, List.length_cons, List.length_nil]
        omega
      have HL := Lib.hid (List_val (some ⟨w3.heap.size, 0, none⟩) 3 _ _ hp (by simp) (by omega) 3 rfl)
      clear hp hsrc1 hsrc2 hsrc3
      go_wp2_with (go_at_call 13; refine HL.out.mono ?_; rintro e w4 ⟨a4, k4, c4, rfl, ho4, hb4⟩; refine Hid.out ?_)
      refine Lib.hid ?_
      have hn4 : Below w3.heap.size w3 w4 := ((Below.refl w3.heap.size w3).alloc (Nat.le_refl _) _).trans (hb4.mono (by simp))
      have hs5 := hn4.size
      have hnw4 : Below w.heap.size w w4 := (((hnx.trans (hb1.mono hs1)).trans (hb2.mono (by omega))).trans (hb3.mono (by omega))).trans (hn4.mono (by omega))
      have hput : (putList [putList (zs.map putInt), putText s.data.toList, putInt n]).length ≤ 140737488355328 := by
        simp only [putList, List.length_cons, List.length_append] at htot ⊢; simp at htot ⊢; omega
      have HNw := Lib.hid (New_any _ _ _ ho4.src hput)
      have hv4 := hv.on hnw4
      clear htot hput HL HP ho1 ho2 ho3 ho4 hb1 hb2 hb3 hb4 hn4 hv1 hv2 hv3 hvr hpl
      go_wp2_with (go_at_call 16; refine HNw.out.mono ?_; rintro e w5 ⟨rb, a5, c5, rfl, hrd5, hrb, hal, hb5⟩; refine Hid.out ?_)
      refine Lib.hid ?_
      have hnw5 : Below w.heap.size w w5 := hnw4.trans (hb5.mono (by omega))
      have hs6 := hb5.size
      rw [left_all] at hrd5
      clear hal hb5 HNw
      go_wp2_with (go_at_call 20; refine (Open_ok rb a5 c5 _ _ hrd5).mono ?_; rintro e w6 ⟨rfl, ⟨p6, hrd6⟩, hg6⟩; refine Hid.out ?_)
      refine Lib.hid ?_
      have hrbw : w.heap.size ≤ rb := by omega
      have hnw6 : Below w.heap.size w w6 := hnw5.trans (below_of_grownBy hg6 hrbw (by omega))
      have hs7 := hnw6.size
      clear hrd5 hg6
      go_wp2_with (go_at_call 20; refine (Open_ok rb (some p6) _ _ _ hrd6).mono ?_; rintro e w7 ⟨rfl, ⟨p7, hrd7⟩, hg7⟩; refine Hid.out ?_)
      refine Lib.hid ?_
      have hnw7 : Below w.heap.size w w7 := hnw6.trans (below_of_grownBy hg7 hrbw hs7)
      clear hrd6 hg7 hnw6 hs7 hnw5 hs6 hrb hv4 hnw4 hs5 hs4 hs3 hs2 hs1 hnx
      go_wp2
      go_loopw [10] (fun i wq => ∃ (k : Nat) (aq : Option Addr) (cq : Nat), k ≤ zs.length ∧ i = .int .i64 k ∧ Rd wq rb aq cq (leftAt zs s.data.toList n k) 0 ∧ Below w.heap.size w wq) (fun i _ => zs.length - (intOf i).toNat)
      case atStart => exact ⟨0, _, _, Nat.zero_le _, rfl, hrd7, hnw7⟩
      case round =>
        obtain ⟨j, aq, cq, hj, rfl, hrd, hnq⟩ := hrel
        have hvq := hv.on hnq
        have hsq := hnq.size
        by_cases hjl : j < zs.length
        · obtain ⟨b, o, rfl, hc0⟩ := ha j hjl
          obtain ⟨b', o', e', hc⟩ := (ha.below hnq (Nat.le_refl _)) j hjl
          cases e'
          have hzj := HZ.out zs[j] (List.getElem_mem _)
          rw [left_next _ _ _ j hjl] at hrd
          generalize zs[j] = z at *
          have hmore : moreB (putInt z ++ leftAt zs s.data.toList n (j + 1)) = true := more_int _ _
          have hbrb : b < rb := Nat.lt_of_lt_of_le (World.block_lt_of_cell? w ⟨b, o + j, none⟩ hc0) hrbw
          have hne : ((j : Int) == (zs.length : Int)) = false := by rw [beq_eq_false_iff_ne]; omega
          go_wp2_with (go_at_call 21; refine (More_any rb aq cq _ _ _ hrd).mono ?_; rintro e w8 ⟨rfl, rfl⟩; refine Hid.out ?_)
          refine Lib.hid ?_
          go_wp2
          clear hc0 hmore
          go_region_held3 (fun w' => w'.cell? ⟨b, o + j, none⟩ = some (.int .i64 z)) (first | go_keep | (exact World.grownBy.cell hg9 (by assumption) (by simp; omega)))
            (first | (go_at_call 22; refine (rInt_put rb aq cq z _ w.heap.size _ hrd.drew hzj.1 hzj.2 hrbw hvq.drew).mono ?_; rintro e w9 ⟨rfl, ⟨a9, c9, hrd9⟩, hg9⟩))
          have hn9 := hnq.drew.trans (below_of_grownBy hg9 hrbw hsq)
          go_wp2
          go_roundw
          case rel => exact ⟨j + 1, _, _, by omega, by go_num, hrd9, hn9⟩
          case measure => simp [intOf]; omega
        · have hjz : j = zs.length := by omega
          rw [hjz, left_end] at hrd
          have hmore : moreB (101 :: (putText s.data.toList ++ (putInt n ++ [101]))) = false := by simp [moreB]
          go_wp2_with (go_at_call 21; refine (More_any rb aq cq _ _ _ hrd).mono ?_; rintro e w8 ⟨rfl, rfl⟩; refine Hid.out ?_)
          refine Lib.hid ?_
          go_wp2_with (go_at_call 24; refine (Close_ok rb aq cq _ _ hrd).mono ?_; rintro e w9 ⟨rfl, ⟨p9, hrd9⟩, hg9⟩; refine Hid.out ?_)
          refine Lib.hid ?_
          have hn9 := hnq.trans (below_of_grownBy hg9 hrbw hsq)
          have hs9 := hn9.size
          clear hmore hrd hnq hvq hsq hg9
          go_wp2_with (go_at_call 23; refine (rText_put rb (some p9) _ s.data.toList _ _ w.heap.size _ hrd9 (by show s.size ≤ _; omega) (Int.le_refl _) hrbw (hv.on hn9)).mono ?_; rintro e w10 ⟨rfl, ⟨a10, c10, hrd10⟩, hg10⟩; refine Hid.out ?_)
          refine Lib.hid ?_
          have hn10 := hn9.trans (below_of_grownBy hg10 hrbw hs9)
          have hs10 := hn10.size
          clear hrd9 hn9 hs9 hg10
          go_wp2_with (go_at_call 22; refine (rInt_put rb a10 c10 n _ w.heap.size _ hrd10 hn0 hn1 hrbw (hv.on hn10)).mono ?_; rintro e w11 ⟨rfl, ⟨a11, c11, hrd11⟩, hg11⟩; refine Hid.out ?_)
          refine Lib.hid ?_
          have hn11 := hn10.trans (below_of_grownBy hg11 hrbw hs10)
          have hs11 := hn11.size
          clear hrd10 hn10 hs10 hg11
          go_wp2_with (go_at_call 24; refine (Close_ok rb a11 c11 [] _ hrd11).mono ?_; rintro e w12 ⟨rfl, ⟨p12, hrd12⟩, hg12⟩; refine Hid.out ?_)
          refine Lib.hid ?_
          have hn12 := hn11.trans (below_of_grownBy hg12 hrbw hs11)
          have hs12 := hn12.size
          clear hrd11 hn11 hs11 hg12
          go_wp2_with (first
            | (go_at_call 19; refine (Left_any rb (some p12) _ _ _ _ hrd12).mono ?_; rintro e w13 ⟨rfl, rfl⟩)
            | (go_at_call 18; refine (Err_any rb (some p12) _ _ _ _ hrd12).mono ?_; rintro e w13 ⟨rfl, rfl⟩)
            | (go_at_call 15; refine (awake_any w.heap.size _ hs12 (hv.on hn12)).mono ?_; rintro e w13 ⟨rfl, hb13⟩))
          go_ret
          exact ⟨rfl, hn12.trans (hb13.mono hs12)⟩

end Go.Proofs.YtbpniegiaadbeaaDoor
