/-
  BenBack, walked: it answers true for few numbers and short texts, and turns nothing that was there.
-/
import Derived.Test.YtbpniegiaadbeaaDoorNested
namespace Go.Proofs.YtbpniegiaadbeaaDoor
open Go.RowKit

/-- Texts that came in. -/
def StrsAt (w : World) (a : Option Addr) (ss : List ByteArray) : Prop := ∀ i (hi : i < ss.length), ∃ b o, a = some ⟨b, o, none⟩ ∧ w.cell? ⟨b, o + i, none⟩ = some (.string ss[i])
theorem StrsAt.below {w w' : World} {a : Option Addr} {ss : List ByteArray} {B : Nat} (h : StrsAt w a ss) (hb : Below B w w') (hB : w.heap.size ≤ B) : StrsAt w' a ss := fun i hi => by
  obtain ⟨b, o, rfl, hc⟩ := h i hi
  exact ⟨b, o, rfl, by rw [hb.cell (p := ⟨b, o + i, none⟩) (Nat.lt_of_lt_of_le (World.block_lt_of_cell? w _ hc) hB)]; exact hc⟩

def pT (s : ByteArray) : List UInt8 := putText s.data.toList
def sizes (ss : List ByteArray) : Nat := (ss.map (·.size)).sum
theorem pTs_len : ∀ (ss : List ByteArray), sizes ss ≤ 1048576 → (ss.map pT).flatten.length ≤ sizes ss + 22 * ss.length
  | [], _ => by simp [sizes]
  | s :: ss, h => by
    simp only [sizes, List.map_cons, List.sum_cons] at h ⊢
    have h3 : s.data.toList.length = s.size := rfl
    have h1 := putText_len s.data.toList (by omega)
    have h2 := pTs_len ss (by unfold sizes; omega)
    simp only [List.flatten_cons, List.length_append, List.length_cons, pT]
    unfold sizes at h2
    omega
theorem size_le : ∀ {ss : List ByteArray} {s : ByteArray}, s ∈ ss → s.size ≤ sizes ss
  | x :: ss, s, h => by
    simp only [sizes, List.map_cons, List.sum_cons]
    rcases List.mem_cons.1 h with rfl | h
    · omega
    · have := size_le h; unfold sizes at this; omega

def textsAt (ss : List ByteArray) (k : Nat) : List UInt8 := ((ss.drop k).map pT).flatten ++ [101]
def intsAt (zs : List Int) (ss : List ByteArray) (k : Nat) : List UInt8 := ((zs.drop k).map putInt).flatten ++ textsAt ss 0
theorem back_all (zs : List Int) (ss : List ByteArray) : putList (zs.map putInt ++ ss.map pT) = 108 :: intsAt zs ss 0 := by simp [putList, intsAt, textsAt]
theorem ints_next (zs : List Int) (ss : List ByteArray) (k : Nat) (h : k < zs.length) : intsAt zs ss k = putInt zs[k] ++ intsAt zs ss (k + 1) := by
  unfold intsAt
  rw [List.drop_eq_getElem_cons h]
  simp only [List.map_cons, List.flatten_cons, List.append_assoc]
theorem ints_end (zs : List Int) (ss : List ByteArray) : intsAt zs ss zs.length = textsAt ss 0 := by simp [intsAt]
theorem texts_next (ss : List ByteArray) (k : Nat) (h : k < ss.length) : textsAt ss k = putText ss[k].data.toList ++ textsAt ss (k + 1) := by
  unfold textsAt
  rw [List.drop_eq_getElem_cons h]
  simp only [List.map_cons, List.flatten_cons, List.append_assoc]
  rfl
theorem texts_end (ss : List ByteArray) : textsAt ss ss.length = [101] := by simp [textsAt]
theorem more_text (s r : List UInt8) : moreB (putText s ++ r) = true := by
  unfold putText
  have hi : Lib.itoa (s.length : Int) = Lib.decDigits s.length := by unfold Lib.itoa; rw [if_neg (by omega), Int.toNat_natCast]
  rw [hi]
  have hd := dec_digits s.length
  cases hq : Lib.decDigits s.length with
  | nil => exact absurd hq (dec_ne _)
  | cons c d =>
    rw [hq] at hd
    have hc := hd c (List.mem_cons_self ..)
    simp [moreB]
    omega

theorem rText_str (rb : Nat) (a : Option Addr) (c : Nat) (s : ByteArray) (r : List UInt8) (B : Nat) (w : World) (h : Rd w rb a c (putText s.data.toList ++ r) 0) (hs : s.size ≤ 1000000000) (hB : B ≤ rb) (hv : VarsOk B w) :
    Calls Tryd.prog 23 #[.pointer (some ⟨rb, 0, none⟩), .int .i64 s.size] w fun e w' => e = .returned (.string s) ∧ (∃ a c, Rd w' rb a c r 0) ∧ w.grownBy w' (some rb) :=
  rText_put rb a c s.data.toList r s.size B w h hs (Int.le_refl _) hB hv

theorem Own.row {w : World} {v : Value} {vs : List Value} {B : Nat} {n : Nat} (h : w.ownsRow B 23 1 v n vs) : ∃ a n c, v = .slice a n c := by
  rcases h.2 with ⟨rfl, -⟩ | ⟨g, cap, cur, rfl, -, -, -, -, -, -⟩ <;> exact ⟨_, _, _, rfl⟩

set_option maxHeartbeats 4000000 in
set_option maxRecDepth 100000 in
theorem back_walk (a b : Option Addr) (zs : List Int) (ss : List ByteArray) (ca cb : Nat) (w : World) (hz : ∀ x ∈ zs, -9223372036854775808 ≤ x ∧ x ≤ 9223372036854775807)
    (hzl : zs.length ≤ 1048576) (hsl : ss.length ≤ 1048576) (hss : sizes ss ≤ 1048576) (ha : IntsAt w a zs) (hb : StrsAt w b ss) (hv : VarsOk w.heap.size w) :
    Calls Tryd.prog 5 #[.slice a zs.length ca, .slice b ss.length cb] w fun e w' => e = .returned (.bool true) ∧ Below w.heap.size w w' := by
  obtain ⟨i0, hi, hi0, hi1, hi2⟩ := info_parts infoBytes
  have HZ := Lib.hid hz
  have HS := Lib.hid hss
  clear hz hss
  go_enter Tryd.func5, Tryd.ntmps5
  go_wp2
  go_loopw [5, 6] (fun v i wr => ∃ (k : Nat) (a7 : Option Addr) (n7 c7 : Nat) (vs : List Value), k ≤ zs.length ∧ i = .int .i64 k ∧ v = .slice a7 n7 c7 ∧ RowOf wr w.heap.size (.slice a7 n7 c7) vs ((zs.take k).map putInt) ∧ Below w.heap.size w wr) (fun _ i _ => zs.length - (intOf i).toNat)
  case atStart => exact ⟨0, none, 0, 0, [], Nat.zero_le _, rfl, rfl, RowOf.nil _ _, Below.refl _ _⟩
  case round =>
    obtain ⟨k, a7, n7, c7, vs, hk, rfl, rfl, hrow, hnx⟩ := hrel
    have hs1 := hnx.size
    by_cases hlt : k < zs.length
    · obtain ⟨b, o, rfl, hc⟩ := (ha.below hnx (Nat.le_refl _)) k hlt
      have hzk := HZ.out zs[k] (List.getElem_mem _)
      have hlen := hrow.len
      simp only [List.length_map, List.length_take] at hlen
      have hmap : (zs.take (k + 1)).map putInt = (zs.take k).map putInt ++ [putInt zs[k]] := by
        rw [List.take_succ_eq_append_getElem hlt, List.map_append]; rfl
      have HM := Lib.hid hmap
      clear hmap
      generalize zs[k] = z at *
      have hvr := hv.on hnx
      go_wp2_with (go_at_call 9; refine (Int_val z hzk.1 hzk.2 w.heap.size _ hs1 hvr).mono ?_; rintro e w1 ⟨a1, k1, c1, rfl, ho1, hb1⟩; refine Hid.out ?_)
      refine Lib.hid ?_
      have hs2 := hb1.size
      have hown1 := (hrow.below hb1).own
      go_wp2_with (at_builtin; refine wpList_append_own_at _ rfl _ _ 22 rfl w.heap.size 23 i0 (.slice none 0 0) 1 24 Tryd.underlying22 hi hi0 hi1 hi2 rfl (by decide) _ _ _ rfl (hown1.alloc _) ⟨w1.heap.size, 0, none⟩ 1 1 [Value.slice a1 k1 c1] rfl rfl (cell_one_new _ _ _) (by intro u' hu'; simp at hu'; subst hu'; rfl) (by unfold maxLen; omega) (by omega) (by simp; omega) ?_; refine Hid.out ?_)
      refine Lib.hid ?_
      intro v2 w2 hown2 hgrow _ hat
      have hvl : vs.length = k := by omega
      have hrow2 := hrow.step hb1 ho1 (by rw [hvl]; exact hown2) hgrow hat
      have hnx2 : Below w.heap.size w w2 := ((hnx.trans (hb1.mono hs1)).alloc (by omega) _).grown hgrow (by simp; omega) (fun j hj => (hrow.own.lt j hj).1)
      obtain ⟨a2, n2, c2, hv2⟩ := Own.row hown2
      rw [hv2] at hrow2 ⊢
      go_wp2
      go_roundw
      case rel => exact ⟨k + 1, a2, n2, c2, vs ++ [.slice a1 k1 c1], by omega, by go_num, rfl, by rw [HM.out]; exact hrow2, hnx2⟩
      case measure => simp [intOf]; omega
    · obtain rfl : k = zs.length := by omega
      have hrow' : RowOf wr w.heap.size (.slice a7 n7 c7) vs (zs.map putInt ++ (ss.take 0).map pT) := by rw [List.take_length] at hrow; simpa using hrow
      clear hrow
      go_wp2
      go_loopw [5, 7] (fun v i wr => ∃ (k : Nat) (a7 : Option Addr) (n7 c7 : Nat) (vs : List Value), k ≤ ss.length ∧ i = .int .i64 k ∧ v = .slice a7 n7 c7 ∧ RowOf wr w.heap.size (.slice a7 n7 c7) vs (zs.map putInt ++ (ss.take k).map pT) ∧ Below w.heap.size w wr) (fun _ i _ => ss.length - (intOf i).toNat)
      case atStart => exact ⟨0, a7, n7, c7, vs, Nat.zero_le _, rfl, rfl, hrow', hnx⟩
      clear hrow' hnx hs1
      case round =>
        obtain ⟨k', a7, n7, c7, vs, hk', rfl, rfl, hrow, hnx⟩ := hrel
        have hs1 := hnx.size
        by_cases hlt' : k' < ss.length
        · obtain ⟨b, o, rfl, hc⟩ := (hb.below hnx (Nat.le_refl _)) k' hlt'
          have hsk : (ss[k']).size ≤ 1048576 := Nat.le_trans (size_le (List.getElem_mem _)) HS.out
          have hlen := hrow.len
          simp only [List.length_append, List.length_map, List.length_take] at hlen
          have hmap : zs.map putInt ++ (ss.take (k' + 1)).map pT = (zs.map putInt ++ (ss.take k').map pT) ++ [pT ss[k']] := by
            rw [List.take_succ_eq_append_getElem hlt', List.map_append, List.append_assoc]; rfl
          have HM := Lib.hid hmap
          clear hmap
          generalize ss[k'] = z at *
          have hvr := hv.on hnx
          go_wp2_with (go_at_call 11; refine (Text_val z (by omega) w.heap.size _ hs1 hvr).mono ?_; rintro e w1 ⟨a1, k1, c1, rfl, ho1, hb1⟩; refine Hid.out ?_)
          refine Lib.hid ?_
          have hs2 := hb1.size
          have hown1 := (hrow.below hb1).own
          go_wp2_with (at_builtin; refine wpList_append_own_at _ rfl _ _ 22 rfl w.heap.size 23 i0 (.slice none 0 0) 1 24 Tryd.underlying22 hi hi0 hi1 hi2 rfl (by decide) _ _ _ rfl (hown1.alloc _) ⟨w1.heap.size, 0, none⟩ 1 1 [Value.slice a1 k1 c1] rfl rfl (cell_one_new _ _ _) (by intro u' hu'; simp at hu'; subst hu'; rfl) (by unfold maxLen; omega) (by omega) (by simp; omega) ?_; refine Hid.out ?_)
          refine Lib.hid ?_
          intro v2 w2 hown2 hgrow _ hat
          have hvl : vs.length = zs.length + k' := by omega
          have hrow2 := hrow.step hb1 ho1 (by rw [hvl]; exact hown2) hgrow hat
          have hnx2 : Below w.heap.size w w2 := ((hnx.trans (hb1.mono hs1)).alloc (by omega) _).grown hgrow (by simp; omega) (fun j hj => (hrow.own.lt j hj).1)
          obtain ⟨a2, n2, c2, hv2⟩ := Own.row hown2
          rw [hv2] at hrow2 ⊢
          go_wp2
          go_roundw
          case rel => exact ⟨k' + 1, a2, n2, c2, vs ++ [Value.slice a1 k1 c1], by omega, by go_num, rfl, by rw [HM.out]; exact hrow2, hnx2⟩
          case measure => simp [intOf]; omega
        · obtain rfl : k' = ss.length := by omega
          rw [List.take_length] at hrow
          obtain ⟨hn7, hparts⟩ := hrow.parts
          have hpl := putInts_len zs HZ.out
          have hpt := pTs_len ss HS.out
          have hss := HS.out
          have HN7 := Lib.hid hn7
          clear hrow hn7
          have HP := Lib.hid (List_val a7 c7 (zs.map putInt ++ ss.map pT) _ hparts (by simp; omega) (by simp only [List.flatten_append, List.length_append]; omega) n7 HN7.out)
          have hput : (putList (zs.map putInt ++ ss.map pT)).length ≤ 140737488355328 := by
            simp only [putList, List.flatten_append, List.length_cons, List.length_append, List.length_nil]; omega
          clear hparts hpl hpt hss
          go_wp2_with (go_at_call 13; refine HP.out.mono ?_; rintro e w1 ⟨a1, k1, c1, rfl, ho1, hb1⟩; refine Hid.out ?_)
          refine Lib.hid ?_
          have hs2 := hb1.size
          have hn1 := hnx.trans (hb1.mono hs1)
          go_wp2_with (go_at_call 16; refine (New_any _ _ _ ho1.src hput).mono ?_; rintro e w5 ⟨rb, a5, c5, rfl, hrd5, hrb, hal, hb5⟩; refine Hid.out ?_)
          refine Lib.hid ?_
          have hn5 := hn1.trans (hb5.mono (by omega))
          have hrbw : w.heap.size ≤ rb := by omega
          have hs5 := hn5.size
          rw [back_all] at hrd5
          clear HP hput ho1 hb1 hal hb5 hn1 hrb hs2 hs1 hnx
          go_wp2_with (go_at_call 20; refine (Open_ok rb a5 c5 _ _ hrd5).mono ?_; rintro e w6 ⟨rfl, ⟨p6, hrd6⟩, hg6⟩; refine Hid.out ?_)
          refine Lib.hid ?_
          have hn6 : Below w.heap.size w w6 := hn5.trans (below_of_grownBy hg6 hrbw hs5)
          clear hrd5 hg6 hn5 hs5
          go_wp2
          go_loopw [9] (fun i wq => ∃ (k : Nat) (aq : Option Addr) (cq : Nat), k ≤ zs.length ∧ i = .int .i64 k ∧ Rd wq rb aq cq (intsAt zs ss k) 0 ∧ Below w.heap.size w wq) (fun i _ => zs.length - (intOf i).toNat)
          case atStart => exact ⟨0, _, _, Nat.zero_le _, rfl, hrd6, hn6⟩
          clear hrd6 hn6
          case round =>
            obtain ⟨j, aq, cq, hj, rfl, hrd, hnq⟩ := hrel
            have hvq := hv.on hnq
            have hsq := hnq.size
            by_cases hjl : j < zs.length
            · obtain ⟨bb, o, rfl, hc0⟩ := ha j hjl
              obtain ⟨b', o', e', hc⟩ := (ha.below hnq (Nat.le_refl _)) j hjl
              cases e'
              have hzj := HZ.out zs[j] (List.getElem_mem _)
              rw [ints_next _ _ j hjl] at hrd
              generalize zs[j] = z at *
              have hmore : moreB (putInt z ++ intsAt zs ss (j + 1)) = true := more_int _ _
              have hbrb : bb < rb := Nat.lt_of_lt_of_le (World.block_lt_of_cell? w ⟨bb, o + j, none⟩ hc0) hrbw
              clear hc0
              go_wp2
              go_region_held3 (fun w' => w'.cell? ⟨bb, o + j, none⟩ = some (.int .i64 z)) (first | go_keep | (exact World.grownBy.cell hg9 (by assumption) (by simp; omega)))
                (first | (go_at_call 21; refine (More_any rb aq cq _ _ _ hrd.drew).mono ?_; rintro e w8 ⟨rfl, rfl⟩) | (go_at_call 22; refine (rInt_put rb aq cq z _ w.heap.size _ hrd.drew hzj.1 hzj.2 hrbw hvq.drew).mono ?_; rintro e w9 ⟨rfl, ⟨a9, c9, hrd9⟩, hg9⟩))
              have hn9 := hnq.drew.trans (below_of_grownBy hg9 hrbw hsq)
              go_wp2
              go_roundw
              case rel => exact ⟨j + 1, _, _, by omega, by go_num, hrd9, hn9⟩
              case measure => simp [intOf]; omega
            · obtain rfl : j = zs.length := by omega
              rw [ints_end] at hrd
              clear hvq hsq
              go_wp2
              go_loopw [10] (fun i wq => ∃ (k : Nat) (aq : Option Addr) (cq : Nat), k ≤ ss.length ∧ i = .int .i64 k ∧ Rd wq rb aq cq (textsAt ss k) 0 ∧ Below w.heap.size w wq) (fun i _ => ss.length - (intOf i).toNat)
              case atStart => exact ⟨0, _, _, Nat.zero_le _, rfl, hrd, hnq⟩
              clear hrd hnq
              case round =>
                obtain ⟨j, aq, cq, hj, rfl, hrd, hnq⟩ := hrel
                have hvq := hv.on hnq
                have hsq := hnq.size
                by_cases hjl : j < ss.length
                · obtain ⟨bb, o, rfl, hc0⟩ := hb j hjl
                  obtain ⟨b', o', e', hc⟩ := (hb.below hnq (Nat.le_refl _)) j hjl
                  cases e'
                  have hzj : (ss[j]).size ≤ 1048576 := Nat.le_trans (size_le (List.getElem_mem _)) HS.out
                  rw [texts_next _ j hjl] at hrd
                  generalize ss[j] = z at *
                  have hmore : moreB (putText z.data.toList ++ textsAt ss (j + 1)) = true := more_text _ _
                  have hbrb : bb < rb := Nat.lt_of_lt_of_le (World.block_lt_of_cell? w ⟨bb, o + j, none⟩ hc0) hrbw
                  clear hc0
                  go_wp2
                  go_region_held3 (fun w' => w'.cell? ⟨bb, o + j, none⟩ = some (.string z)) (first | go_keep | (exact World.grownBy.cell hg9 (by assumption) (by simp; omega)))
                    (first | (go_at_call 21; refine (More_any rb aq cq _ _ _ hrd.drew).mono ?_; rintro e w8 ⟨rfl, rfl⟩) | (go_at_call 23; refine (rText_str rb aq cq z _ w.heap.size _ hrd.drew (by omega) hrbw hvq.drew).mono ?_; rintro e w9 ⟨rfl, ⟨a9, c9, hrd9⟩, hg9⟩))
                  have hn9 := hnq.drew.trans (below_of_grownBy hg9 hrbw hsq)
                  go_wp2
                  go_roundw
                  case rel => exact ⟨j + 1, _, _, by omega, by go_num, hrd9, hn9⟩
                  case measure => simp [intOf]; omega
                · obtain rfl : j = ss.length := by omega
                  rw [texts_end] at hrd
                  have hmore : moreB [101] = false := by decide
                  go_wp2_with (go_at_call 21; refine (More_any rb aq cq _ _ _ hrd).mono ?_; rintro e w8 ⟨rfl, rfl⟩; refine Hid.out ?_)
                  refine Lib.hid ?_
                  go_wp2_with (go_at_call 24; refine (Close_ok rb aq cq [] _ hrd).mono ?_; rintro e w12 ⟨rfl, ⟨p12, hrd12⟩, hg12⟩; refine Hid.out ?_)
                  refine Lib.hid ?_
                  have hn12 := hnq.trans (below_of_grownBy hg12 hrbw hsq)
                  have hs12 := hn12.size
                  clear hrd hnq hg12 hvq hsq
                  go_wp2_with (first
                    | (go_at_call 19; refine (Left_any rb (some p12) _ _ _ _ hrd12).mono ?_; rintro e w13 ⟨rfl, rfl⟩)
                    | (go_at_call 18; refine (Err_any rb (some p12) _ _ _ _ hrd12).mono ?_; rintro e w13 ⟨rfl, rfl⟩)
                    | (go_at_call 15; refine (awake_any w.heap.size _ hs12 (hv.on hn12)).mono ?_; rintro e w13 ⟨rfl, hb13⟩))
                  go_ret
                  exact ⟨rfl, hn12.trans (hb13.mono hs12)⟩

end Go.Proofs.YtbpniegiaadbeaaDoor
