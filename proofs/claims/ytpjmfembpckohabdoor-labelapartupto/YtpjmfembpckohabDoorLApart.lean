/-
  The walk of LabelApart.
-/
import Derived.Test.YtpjmfembpckohabDoorLRPlain
import Derived.Test.YtpjmfembpckohabDoorLPick
import Derived.Test.YtpjmfembpckohabDoorLAwake
namespace Go.Proofs.YtpjmfembpckohabDoor
open Go.RowKit

theorem infoStr : (Tryd.prog.info? 9).map (fun i => (i.zero, i.size, i.bytes)) = some (some (.string ⟨#[]⟩), 1, 16) := by kernel_rfl

/-- A slice of texts in blocks from B on. -/
def OwnS (w : World) (B : Nat) (v : Value) (ss : List ByteArray) : Prop := w.ownsRow B 9 1 v ss.length (ss.map .string)

theorem OwnS.form {w : World} {B : Nat} {v : Value} {ss : List ByteArray} (h : OwnS w B v ss) : ∃ a c, v = .slice a ss.length c ∧ TextsAt w a ss := by
  have hcl := fun g hg j u hj => World.ownsRow.cells h (g := g) hg j u hj
  rcases h.2 with ⟨rfl, h0⟩ | ⟨g, cap, cur, rfl, hg0, hg1, hcap, hmax, hcs, htk⟩
  · exact ⟨none, 0, by rw [h0], fun hn => absurd hn (by omega)⟩
  · refine ⟨_, _, rfl, fun _ => ⟨g, 0, rfl, fun i hi => ?_⟩⟩
    have e0 := hcl g rfl i (.string ss[i]) (by simp [hi])
    rw [Go.WideShapes.add_plain] at e0
    exact e0
theorem OwnS.push {w : World} {B : Nat} {v : Value} {ss : List ByteArray} {s : ByteArray} (h : w.ownsRow B 9 1 v (ss.length + 1) (ss.map .string ++ [.string s])) : OwnS w B v (ss ++ [s]) := by
  unfold OwnS
  rw [List.map_append, List.length_append]
  exact h

theorem pick_all (ps : List Pr) : pickL ps (ps.map (·.1)) = ps := by
  unfold pickL
  rw [List.filter_eq_self]
  intro p hp
  exact inB_yes (List.mem_map_of_mem hp)
theorem pick_none (ps : List Pr) : pickL ps [] = [] := by
  unfold pickL
  rw [List.filter_eq_nil_iff]
  intro p _
  simp [inB]
theorem pick_twice (ps : List Pr) (ns : List ByteArray) : pickL (pickL ps ns) ns = pickL ps ns := by
  unfold pickL
  rw [List.filter_filter]
  simp
theorem take_names (ps : List Pr) (k : Nat) (hk : k < ps.length) : (ps.take (k + 1)).map (·.1) = (ps.take k).map (·.1) ++ [ps[k].1] := by
  rw [List.take_succ_eq_append_getElem hk, List.map_append]
  rfl
theorem key_apart {xs ys : List Pr} (hx : Fit xs) (hy : Fit ys) (h : xs ≠ ys) : ((⟨(keyL xs).toArray⟩ : ByteArray).toList == (⟨(keyL ys).toArray⟩ : ByteArray).toList) = false := by
  rw [str_beq]
  refine decide_eq_false fun e => h (keyL_inj hx hy ?_)
  simpa using e

set_option maxHeartbeats 4000000 in
set_option maxRecDepth 100000 in
theorem apart_eq (a b n : Option Addr) (ca cb cn : Nat) (xs ys : List Pr) (ns : List ByteArray) (w : World) (ha : PairsAt w a xs) (hb : PairsAt w b ys) (hs : TextsAt w n ns)
    (hxl : xs.length ≤ 1048576) (hyl : ys.length ≤ 1048576) (hnl : ns.length ≤ 1048576) (hxz : ∀ p ∈ xs, p.1.size ≤ 1048576 ∧ p.2.size ≤ 1048576) (hyz : ∀ p ∈ ys, p.1.size ≤ 1048576 ∧ p.2.size ≤ 1048576)
    (hxf : (partsK xs).flatten.length ≤ 100000000) (hyf : (partsK ys).flatten.length ≤ 100000000) (hv : TabOk w.heap.size w) (hE : xs = ys) :
    Calls Tryd.prog 3 #[.slice a xs.length ca, .slice b ys.length cb, .slice n ns.length cn] w fun e w' => e = .returned (.bool true) ∧ Below w.heap.size w w' := by
  obtain ⟨i0, hi, hi0, hi1, hi2⟩ := info_parts infoStr
  have HKX := Lib.hid (fun w1 (hb : Below w.heap.size w w1) => Key_any a ca xs w.heap.size w1 (ha.below hb (Nat.le_refl _)) hxl hxz (by omega) hb.size (hv.on hb) xs.length rfl)
  have HKY := Lib.hid (fun w1 (hb1 : Below w.heap.size w w1) => Key_any b cb ys w.heap.size w1 (hb.below hb1 (Nat.le_refl _)) hyl hyz (by omega) hb1.size (hv.on hb1) ys.length rfl)
  have HSM := Lib.hid (fun w1 (hb1 : Below w.heap.size w w1) => Same_any a b ca cb xs ys w1 (ha.below hb1 (Nat.le_refl _)) (hb.below hb1 (Nat.le_refl _)) (by omega) xs.length ys.length rfl rfl)
  have HPN := Lib.hid (fun w1 (hb1 : Below w.heap.size w w1) => Pick_any a n ca cn xs ns w1 (ha.below hb1 (Nat.le_refl _)) (hs.below hb1 (Nat.le_refl _)) (by omega) (by omega) xs.length rfl ns.length rfl)
  have HP0 := Lib.hid (fun w1 (hb1 : Below w.heap.size w w1) => Pick_any a none ca 0 xs [] w1 (ha.below hb1 (Nat.le_refl _)) (fun h => absurd h (by simp)) (by omega) (by simp) xs.length rfl 0 rfl)
  rw [pick_none] at HP0
  have HNS := Lib.hid (fun w1 (hb1 : Below w.heap.size w w1) => hs.below hb1 (Nat.le_refl _))
  have HXA := Lib.hid (fun w1 (hb1 : Below w.heap.size w w1) => ha.below hb1 (Nat.le_refl _))
  subst hE
  simp only [decide_true] at HSM
  have hke : ((⟨(keyL xs).toArray⟩ : ByteArray).toList == (⟨(keyL xs).toArray⟩ : ByteArray).toList) = true := by simp
  have HTW := Lib.hid (pick_twice xs ns)
  have hpl := pickL_len xs ns
  generalize (⟨(keyL xs).toArray⟩ : ByteArray) = K1 at *
  generalize pickL xs ns = rs at *
  clear hb hs hxz hxf hyf hyz
  go_enter Tryd.func3, Tryd.ntmps3
  go_wp2
  go_loopw [7, 8] (fun v i wr => ∃ (k : Nat) (a7 : Option Addr) (n7 c7 : Nat), k ≤ xs.length ∧ i = .int .i64 k ∧ v = .slice a7 n7 c7 ∧ OwnS wr w.heap.size (.slice a7 n7 c7) ((xs.take k).map (·.1)) ∧ Below w.heap.size w wr) (fun _ i _ => xs.length - (intOf i).toNat)
  case atStart => exact ⟨0, none, 0, 0, Nat.zero_le _, rfl, rfl, World.ownsRow_nil _ _ _ _, Below.refl _ _⟩
  case round =>
    obtain ⟨k, a7, n7, c7, hk, rfl, rfl, hown, hnx⟩ := hrel
    have hs1 := hnx.size
    by_cases hlt : k < xs.length
    · have hkl : (k : Int) < (xs.length : Int) := by omega
      obtain ⟨b0, o, rfl, hc⟩ := ha (by omega)
      obtain ⟨hc1, -⟩ := hc k hlt
      rw [← hnx.cell (p := ⟨b0, o + k * 2, none⟩) (World.block_lt_of_cell? w _ hc1)] at hc1
      have HT := Lib.hid (take_names xs k hlt)
      have hlen : ((xs.take k).map (·.1)).length + 1 ≤ 1048577 := by simp; omega
      clear hc
      generalize xs[k].1 = s1 at *
      generalize (xs.take k).map (·.1) = ss at *
      go_wp2_with (at_builtin; refine wpList_append_own _ rfl _ _ 23 rfl w.heap.size 9 i0 _ 1 16 Tryd.underlying23 hi hi0 hi1 hi2 rfl (by decide) _ _ _ rfl (World.ownsRow.alloc hown _) ⟨_, 0, none⟩ 1 1 [.string s1] rfl rfl (World.news_of_block (cs := #[.string s1]) (heap_alloc_new _ _)) (by intro u' hu'; simp at hu'; subst hu'; rfl) (by unfold maxLen; omega) (by omega) (by simp; omega) ?_; refine Hid.out ?_)
      refine Lib.hid ?_
      intro v2 w2 hown2 hgrow _
      have hnx2 : Below w.heap.size w w2 := (hnx.alloc hs1 _).grown hgrow (by simp; omega) (fun k hk => (World.ownsRow.lt hown k hk).1)
      have hown3 : OwnS w2 w.heap.size v2 ((xs.take (k + 1)).map (·.1)) := by
        rw [HT.out]
        exact OwnS.push hown2
      obtain ⟨a6, c6, rfl, -⟩ := hown3.form
      clear hown2 hgrow
      go_wp2
      go_roundw
      case rel => exact ⟨k + 1, _, _, _, by omega, by go_num, rfl, hown3, hnx2⟩
      case measure => simp [intOf]; omega
    · obtain rfl : k = xs.length := by omega
      rw [List.take_length] at hown
      obtain ⟨a6, c6, hv6, hatS⟩ := hown.form
      injection hv6 with e1 e2 e3
      subst e1 e3
      have HN7 := Lib.hid e2
      have hml : (xs.map (·.1)).length ≤ 9223372036854775807 := by simp; omega
      have HPA := Lib.hid (fun w1 (hb1 : Below wr.heap.size wr w1) (hb2 : Below w.heap.size w w1) => Pick_any a a7 ca c7 xs (xs.map (·.1)) w1 (HXA.out w1 hb2) (hatS.below hb1 (Nat.le_refl _)) (by omega) hml xs.length rfl n7 HN7.out)
      rw [pick_all] at HPA
      clear hown e2 hatS ha
      go_wp2_with (go_at_call 4; refine (HPN.out wr hnx).mono ?_; rintro e w2 ⟨a2, c2, rfl, ho2, hb2⟩; refine Hid.out ?_)
      refine Lib.hid ?_
      have hs2 := hb2.size
      have hn2 := hnx.trans (hb2.mono hs1)
      obtain ⟨_, _, hq2, hat2, -, -⟩ := ho2.form
      injection hq2 with q1 q2 q3
      subst q1 q3
      clear ho2 q2
      go_wp2_with (go_at_call 5; refine (HKX.out w2 hn2).mono ?_; rintro e w3 ⟨rfl, hb3⟩; refine Hid.out ?_)
      refine Lib.hid ?_
      have hs3 := hb3.size
      have hn3 := hn2.trans (hb3.mono (by omega))
      go_wp2_with (go_at_call 5; refine (HKY.out w3 hn3).mono ?_; rintro e w4 ⟨rfl, hb4⟩; refine Hid.out ?_)
      refine Lib.hid ?_
      have hs4 := hb4.size
      have hn4 := hn3.trans (hb4.mono (by omega))
      go_wp2_with (go_at_call 6; refine (HSM.out w4 hn4).mono ?_; rintro e w5 ⟨rfl, hb5⟩; refine Hid.out ?_)
      refine Lib.hid ?_
      have hs5 := hb5.size
      have hn5 := hn4.trans (hb5.mono (by omega))
      have hb15 : Below wr.heap.size wr w5 := ((hb2.trans (hb3.mono hs2)).trans (hb4.mono (by omega))).trans (hb5.mono (by omega))
      go_wp2_with (go_at_call 4; refine (HPA.out w5 hb15 hn5).mono ?_; rintro e w6 ⟨a6, c6, rfl, ho6, hb6⟩; refine Hid.out ?_)
      refine Lib.hid ?_
      have hs6 := hb6.size
      have hn6 := hn5.trans (hb6.mono (by omega))
      obtain ⟨_, _, hq6, hat6, -, -⟩ := ho6.form
      injection hq6 with q1 q2 q3
      subst q1 q3
      clear ho6 q2
      have HS6 := Lib.hid (Same_any a6 a c6 ca xs xs w6 hat6 (HXA.out w6 hn6) (by omega) xs.length xs.length rfl rfl)
      simp only [decide_true] at HS6
      go_wp2_with (go_at_call 6; refine HS6.out.mono ?_; rintro e w7 ⟨rfl, hb7⟩; refine Hid.out ?_)
      refine Lib.hid ?_
      have hs7 := hb7.size
      have hn7 := hn6.trans (hb7.mono (by omega))
      go_wp2_with (go_at_call 4; refine (HP0.out w7 hn7).mono ?_; rintro e w8 ⟨a8, c8, rfl, ho8, hb8⟩; refine Hid.out ?_)
      refine Lib.hid ?_
      have hs8 := hb8.size
      have hn8 := hn7.trans (hb8.mono (by omega))
      have hb28 : Below w2.heap.size w2 w8 := (((((hb3.trans (hb4.mono hs3)).trans (hb5.mono (by omega))).trans (hb6.mono (by omega))).trans (hb7.mono (by omega))).trans (hb8.mono (by omega)))
      have hat28 := hat2.below hb28 (Nat.le_refl _)
      have HP9 := Lib.hid (Pick_any a2 n c2 cn rs ns w8 hat28 (HNS.out w8 hn8) (by omega) (by omega) rs.length rfl ns.length rfl)
      rw [HTW.out] at HP9
      clear ho8
      go_wp2_with (go_at_call 4; refine HP9.out.mono ?_; rintro e w9 ⟨a9, c9, rfl, ho9, hb9⟩; refine Hid.out ?_)
      refine Lib.hid ?_
      have hs9 := hb9.size
      have hn9 := hn8.trans (hb9.mono (by omega))
      obtain ⟨_, _, hq9, hat9, -, -⟩ := ho9.form
      injection hq9 with q1 q2 q3
      subst q1 q3
      clear ho9 q2
      have HS9 := Lib.hid (Same_any a9 a2 c9 c2 rs rs w9 hat9 (hat28.below hb9 (Nat.le_refl _)) (by omega) rs.length rs.length rfl rfl)
      simp only [decide_true] at HS9
      go_wp2_with (go_at_call 6; refine HS9.out.mono ?_; rintro e wB ⟨rfl, hbB⟩; refine Hid.out ?_)
      refine Lib.hid ?_
      have hnB := hn9.trans (hbB.mono (by omega))
      have hsB := hnB.size
      go_wp2_with (go_at_call 7; refine (awake_any w.heap.size _ hsB (hv.on hnB)).mono ?_; rintro e wA ⟨rfl, hbA⟩; refine Hid.out ?_)
      refine Lib.hid ?_
      go_wp2
      go_ret
      exact ⟨rfl, hnB.trans (hbA.mono hsB)⟩

set_option maxHeartbeats 4000000 in
set_option maxRecDepth 100000 in
theorem apart_ne (a b n : Option Addr) (ca cb cn : Nat) (xs ys : List Pr) (ns : List ByteArray) (w : World) (ha : PairsAt w a xs) (hb : PairsAt w b ys) (hs : TextsAt w n ns)
    (hxl : xs.length ≤ 1048576) (hyl : ys.length ≤ 1048576) (hnl : ns.length ≤ 1048576) (hxz : ∀ p ∈ xs, p.1.size ≤ 1048576 ∧ p.2.size ≤ 1048576) (hyz : ∀ p ∈ ys, p.1.size ≤ 1048576 ∧ p.2.size ≤ 1048576)
    (hxf : (partsK xs).flatten.length ≤ 100000000) (hyf : (partsK ys).flatten.length ≤ 100000000) (hv : TabOk w.heap.size w) (hE : xs ≠ ys) :
    Calls Tryd.prog 3 #[.slice a xs.length ca, .slice b ys.length cb, .slice n ns.length cn] w fun e w' => e = .returned (.bool true) ∧ Below w.heap.size w w' := by
  obtain ⟨i0, hi, hi0, hi1, hi2⟩ := info_parts infoStr
  have HKX := Lib.hid (fun w1 (hb : Below w.heap.size w w1) => Key_any a ca xs w.heap.size w1 (ha.below hb (Nat.le_refl _)) hxl hxz (by omega) hb.size (hv.on hb) xs.length rfl)
  have HKY := Lib.hid (fun w1 (hb1 : Below w.heap.size w w1) => Key_any b cb ys w.heap.size w1 (hb.below hb1 (Nat.le_refl _)) hyl hyz (by omega) hb1.size (hv.on hb1) ys.length rfl)
  have HSM := Lib.hid (fun w1 (hb1 : Below w.heap.size w w1) => Same_any a b ca cb xs ys w1 (ha.below hb1 (Nat.le_refl _)) (hb.below hb1 (Nat.le_refl _)) (by omega) xs.length ys.length rfl rfl)
  have HPN := Lib.hid (fun w1 (hb1 : Below w.heap.size w w1) => Pick_any a n ca cn xs ns w1 (ha.below hb1 (Nat.le_refl _)) (hs.below hb1 (Nat.le_refl _)) (by omega) (by omega) xs.length rfl ns.length rfl)
  have HP0 := Lib.hid (fun w1 (hb1 : Below w.heap.size w w1) => Pick_any a none ca 0 xs [] w1 (ha.below hb1 (Nat.le_refl _)) (fun h => absurd h (by simp)) (by omega) (by simp) xs.length rfl 0 rfl)
  rw [pick_none] at HP0
  have HNS := Lib.hid (fun w1 (hb1 : Below w.heap.size w w1) => hs.below hb1 (Nat.le_refl _))
  have HXA := Lib.hid (fun w1 (hb1 : Below w.heap.size w w1) => ha.below hb1 (Nat.le_refl _))
  rw [decide_eq_false hE] at HSM
  have hke := key_apart (fun p hp => by have := hxz p hp; omega) (fun p hp => by have := hyz p hp; omega) hE
  have HTW := Lib.hid (pick_twice xs ns)
  have hpl := pickL_len xs ns
  generalize (⟨(keyL xs).toArray⟩ : ByteArray) = K1 at *
  generalize (⟨(keyL ys).toArray⟩ : ByteArray) = K2 at *
  generalize pickL xs ns = rs at *
  clear hb hs hxz hyz hxf hyf hE
  go_enter Tryd.func3, Tryd.ntmps3
  go_wp2
  go_loopw [7, 8] (fun v i wr => ∃ (k : Nat) (a7 : Option Addr) (n7 c7 : Nat), k ≤ xs.length ∧ i = .int .i64 k ∧ v = .slice a7 n7 c7 ∧ OwnS wr w.heap.size (.slice a7 n7 c7) ((xs.take k).map (·.1)) ∧ Below w.heap.size w wr) (fun _ i _ => xs.length - (intOf i).toNat)
  case atStart => exact ⟨0, none, 0, 0, Nat.zero_le _, rfl, rfl, World.ownsRow_nil _ _ _ _, Below.refl _ _⟩
  case round =>
    obtain ⟨k, a7, n7, c7, hk, rfl, rfl, hown, hnx⟩ := hrel
    have hs1 := hnx.size
    by_cases hlt : k < xs.length
    · have hkl : (k : Int) < (xs.length : Int) := by omega
      obtain ⟨b0, o, rfl, hc⟩ := ha (by omega)
      obtain ⟨hc1, -⟩ := hc k hlt
      rw [← hnx.cell (p := ⟨b0, o + k * 2, none⟩) (World.block_lt_of_cell? w _ hc1)] at hc1
      have HT := Lib.hid (take_names xs k hlt)
      have hlen : ((xs.take k).map (·.1)).length + 1 ≤ 1048577 := by simp; omega
      clear hc
      generalize xs[k].1 = s1 at *
      generalize (xs.take k).map (·.1) = ss at *
      go_wp2_with (at_builtin; refine wpList_append_own _ rfl _ _ 23 rfl w.heap.size 9 i0 _ 1 16 Tryd.underlying23 hi hi0 hi1 hi2 rfl (by decide) _ _ _ rfl (World.ownsRow.alloc hown _) ⟨_, 0, none⟩ 1 1 [.string s1] rfl rfl (World.news_of_block (cs := #[.string s1]) (heap_alloc_new _ _)) (by intro u' hu'; simp at hu'; subst hu'; rfl) (by unfold maxLen; omega) (by omega) (by simp; omega) ?_; refine Hid.out ?_)
      refine Lib.hid ?_
      intro v2 w2 hown2 hgrow _
      have hnx2 : Below w.heap.size w w2 := (hnx.alloc hs1 _).grown hgrow (by simp; omega) (fun k hk => (World.ownsRow.lt hown k hk).1)
      have hown3 : OwnS w2 w.heap.size v2 ((xs.take (k + 1)).map (·.1)) := by
        rw [HT.out]
        exact OwnS.push hown2
      obtain ⟨a6, c6, rfl, -⟩ := hown3.form
      clear hown2 hgrow
      go_wp2
      go_roundw
      case rel => exact ⟨k + 1, _, _, _, by omega, by go_num, rfl, hown3, hnx2⟩
      case measure => simp [intOf]; omega
    · obtain rfl : k = xs.length := by omega
      rw [List.take_length] at hown
      obtain ⟨a6, c6, hv6, hatS⟩ := hown.form
      injection hv6 with e1 e2 e3
      subst e1 e3
      have HN7 := Lib.hid e2
      have hml : (xs.map (·.1)).length ≤ 9223372036854775807 := by simp; omega
      have HPA := Lib.hid (fun w1 (hb1 : Below wr.heap.size wr w1) (hb2 : Below w.heap.size w w1) => Pick_any a a7 ca c7 xs (xs.map (·.1)) w1 (HXA.out w1 hb2) (hatS.below hb1 (Nat.le_refl _)) (by omega) hml xs.length rfl n7 HN7.out)
      rw [pick_all] at HPA
      clear hown e2 hatS ha
      go_wp2_with (go_at_call 4; refine (HPN.out wr hnx).mono ?_; rintro e w2 ⟨a2, c2, rfl, ho2, hb2⟩; refine Hid.out ?_)
      refine Lib.hid ?_
      have hs2 := hb2.size
      have hn2 := hnx.trans (hb2.mono hs1)
      obtain ⟨_, _, hq2, hat2, -, -⟩ := ho2.form
      injection hq2 with q1 q2 q3
      subst q1 q3
      clear ho2 q2
      go_wp2_with (go_at_call 5; refine (HKX.out w2 hn2).mono ?_; rintro e w3 ⟨rfl, hb3⟩; refine Hid.out ?_)
      refine Lib.hid ?_
      have hs3 := hb3.size
      have hn3 := hn2.trans (hb3.mono (by omega))
      go_wp2_with (go_at_call 5; refine (HKY.out w3 hn3).mono ?_; rintro e w4 ⟨rfl, hb4⟩; refine Hid.out ?_)
      refine Lib.hid ?_
      have hs4 := hb4.size
      have hn4 := hn3.trans (hb4.mono (by omega))
      go_wp2_with (go_at_call 6; refine (HSM.out w4 hn4).mono ?_; rintro e w5 ⟨rfl, hb5⟩; refine Hid.out ?_)
      refine Lib.hid ?_
      have hs5 := hb5.size
      have hn5 := hn4.trans (hb5.mono (by omega))
      have hb15 : Below wr.heap.size wr w5 := ((hb2.trans (hb3.mono hs2)).trans (hb4.mono (by omega))).trans (hb5.mono (by omega))
      go_wp2_with (go_at_call 4; refine (HPA.out w5 hb15 hn5).mono ?_; rintro e w6 ⟨a6, c6, rfl, ho6, hb6⟩; refine Hid.out ?_)
      refine Lib.hid ?_
      have hs6 := hb6.size
      have hn6 := hn5.trans (hb6.mono (by omega))
      obtain ⟨_, _, hq6, hat6, -, -⟩ := ho6.form
      injection hq6 with q1 q2 q3
      subst q1 q3
      clear ho6 q2
      have HS6 := Lib.hid (Same_any a6 a c6 ca xs xs w6 hat6 (HXA.out w6 hn6) (by omega) xs.length xs.length rfl rfl)
      simp only [decide_true] at HS6
      go_wp2_with (go_at_call 6; refine HS6.out.mono ?_; rintro e w7 ⟨rfl, hb7⟩; refine Hid.out ?_)
      refine Lib.hid ?_
      have hs7 := hb7.size
      have hn7 := hn6.trans (hb7.mono (by omega))
      go_wp2_with (go_at_call 4; refine (HP0.out w7 hn7).mono ?_; rintro e w8 ⟨a8, c8, rfl, ho8, hb8⟩; refine Hid.out ?_)
      refine Lib.hid ?_
      have hs8 := hb8.size
      have hn8 := hn7.trans (hb8.mono (by omega))
      have hb28 : Below w2.heap.size w2 w8 := (((((hb3.trans (hb4.mono hs3)).trans (hb5.mono (by omega))).trans (hb6.mono (by omega))).trans (hb7.mono (by omega))).trans (hb8.mono (by omega)))
      have hat28 := hat2.below hb28 (Nat.le_refl _)
      have HP9 := Lib.hid (Pick_any a2 n c2 cn rs ns w8 hat28 (HNS.out w8 hn8) (by omega) (by omega) rs.length rfl ns.length rfl)
      rw [HTW.out] at HP9
      clear ho8
      go_wp2_with (go_at_call 4; refine HP9.out.mono ?_; rintro e w9 ⟨a9, c9, rfl, ho9, hb9⟩; refine Hid.out ?_)
      refine Lib.hid ?_
      have hs9 := hb9.size
      have hn9 := hn8.trans (hb9.mono (by omega))
      obtain ⟨_, _, hq9, hat9, -, -⟩ := ho9.form
      injection hq9 with q1 q2 q3
      subst q1 q3
      clear ho9 q2
      have HS9 := Lib.hid (Same_any a9 a2 c9 c2 rs rs w9 hat9 (hat28.below hb9 (Nat.le_refl _)) (by omega) rs.length rs.length rfl rfl)
      simp only [decide_true] at HS9
      go_wp2_with (go_at_call 6; refine HS9.out.mono ?_; rintro e wB ⟨rfl, hbB⟩; refine Hid.out ?_)
      refine Lib.hid ?_
      have hnB := hn9.trans (hbB.mono (by omega))
      have hsB := hnB.size
      go_wp2_with (go_at_call 7; refine (awake_any w.heap.size _ hsB (hv.on hnB)).mono ?_; rintro e wA ⟨rfl, hbA⟩; refine Hid.out ?_)
      refine Lib.hid ?_
      go_wp2
      go_ret
      exact ⟨rfl, hnB.trans (hbA.mono hsB)⟩

end Go.Proofs.YtpjmfembpckohabDoor
