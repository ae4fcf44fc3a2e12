/-
  What the reference's Get, Pick and Same do.
-/
import Derived.Test.YtpjmfembpckohaaDoorLPick
namespace Go.Proofs.YtpjmfembpckohaaDoor
open Go.RowKit

set_option maxHeartbeats 1000000 in
theorem refGet_any (a : Option Addr) (c : Nat) (ps : List Pr) (s : ByteArray) (w : World) (h : PairsAt w a ps) (hn : ps.length ≤ 9223372036854775807) (n : Nat) (hnl : n = ps.length) :
    Calls Tryd.prog 20 #[.slice a n c, .string s] w fun e w' => e = .returned (.string (getV ps s.toList)) ∧ w' = w := by
  subst hnl
  go_enter Tryd.func20, Tryd.ntmps20
  go_wp2
  go_loop [5] (fun i => ∃ k : Nat, k ≤ ps.length ∧ i = .int .i64 k ∧ ∀ j, j < k → ∀ hj : j < ps.length, nm ps[j] ≠ s.toList) (fun i => ps.length - (intOf i).toNat)
  case atStart => exact ⟨0, Nat.zero_le _, rfl, fun j hj => absurd hj (Nat.not_lt_zero _)⟩
  case round =>
    obtain ⟨k, hk, rfl, hall⟩ := hrel
    by_cases hlt : k < ps.length
    · have hkl : (k : Int) < (ps.length : Int) := by omega
      obtain ⟨b, o, rfl, hc⟩ := h (by omega)
      obtain ⟨hc1, hc2⟩ := hc k hlt
      clear hc h
      by_cases hE : nm ps[k] = s.toList
      · have hE' : (ps[k].1.toList == s.toList) = true := beq_iff_eq.2 hE
        have HV := Lib.hid (getV_hit ps s.toList k hlt hall hE)
        clear hall hE
        go_wp2
        go_ret
        exact ⟨by rw [HV.out]; rfl, rfl⟩
      · have hE' : (ps[k].1.toList == s.toList) = false := beq_eq_false_iff_ne.2 hE
        have HA := Lib.hid (upto_succ hall fun _ => hE)
        clear hall hE
        go_wp2
        go_round
        case rel => exact ⟨k + 1, by omega, by go_num, HA.out⟩
        case measure => simp [intOf]; omega
    · obtain rfl : k = ps.length := by omega
      have HV : Hid (getV ps s.toList = ⟨#[]⟩) := by
        rw [getV_skip ps s.toList ps.length (Nat.le_refl _) hall, List.drop_length]
        exact rfl
      clear hall
      go_wp2
      go_ret
      exact ⟨by rw [HV.out]; rfl, rfl⟩

set_option maxHeartbeats 2000000 in
set_option maxRecDepth 100000 in
theorem refPick_any (a b : Option Addr) (c d : Nat) (ps : List Pr) (ns : List ByteArray) (w : World) (h : PairsAt w a ps) (hs : TextsAt w b ns) (hl : ps.length ≤ 4398046511102) (hnl : ns.length ≤ 9223372036854775807) (n : Nat) (hn : n = ps.length) (m : Nat) (hm : m = ns.length) :
    Calls Tryd.prog 18 #[.slice a n c, .slice b m d] w fun e w' => ∃ a' c', e = .returned (.slice a' (pickL ps ns).length c') ∧ OwnP w' w.heap.size (.slice a' (pickL ps ns).length c') (pickL ps ns) ∧ Below w.heap.size w w' := by
  subst hn hm
  obtain ⟨i0, hi, hi0, hi1, hi2⟩ := info_parts infoPair
  go_enter Tryd.func18, Tryd.ntmps18
  go_wp2
  go_loopw [5, 6] (fun v i wr => ∃ (k : Nat) (a5 : Option Addr) (n5 c5 : Nat), k ≤ ps.length ∧ i = .int .i64 k ∧ v = .slice a5 n5 c5 ∧ OwnP wr w.heap.size (.slice a5 n5 c5) (pickL (ps.take k) ns) ∧ Below w.heap.size w wr) (fun _ i _ => ps.length - (intOf i).toNat)
  case atStart => exact ⟨0, none, 0, 0, Nat.zero_le _, rfl, rfl, World.ownsRow_nil _ _ _ _, Below.refl _ _⟩
  case round =>
    obtain ⟨k, a5, n5, c5, hk, rfl, rfl, hown, hnx⟩ := hrel
    have hs1 := hnx.size
    by_cases hlt : k < ps.length
    · have hkl : (k : Int) < (ps.length : Int) := by omega
      obtain ⟨b0, o, rfl, hc⟩ := h (by omega)
      obtain ⟨hc1, hc2⟩ := hc k hlt
      rw [← hnx.cell (p := ⟨b0, o + k * 2, none⟩) (World.block_lt_of_cell? w _ hc1)] at hc1
      rw [← hnx.cell (p := ⟨b0, o + k * 2 + 1, none⟩) (World.block_lt_of_cell? w _ hc2)] at hc2
      have HM := Lib.hid (pickL_in ps ns k hlt)
      have HO := Lib.hid (pickL_out ps ns k hlt)
      have hlen : (pickL (ps.take k) ns).length + 1 ≤ 4398046511103 := by have := pickL_len (ps.take k) ns; simp at this; omega
      clear hc h
      generalize ps[k] = pk at *
      obtain ⟨s1, s2⟩ := pk
      generalize (pickL (ps.take k) ns) = rs at *
      have hsw := hs.below hnx (Nat.le_refl _)
      by_cases hin : s1 ∈ ns
      · have hd := inB_yes hin
        have HC := Lib.hid (In_any b d ns s1 wr hsw hnl ns.length rfl)
        rw [hd] at HC
        have HM2 := Lib.hid (HM.out hin)
        clear HM HO hd hin hs hsw
        go_wp2_with (first
          | (go_at_call 34; refine HC.out.mono ?_; rintro e w2 ⟨rfl, rfl⟩)
          | (at_builtin; refine wpList_append_own _ rfl _ _ 22 rfl w.heap.size 35 i0 _ 2 32 Tryd.underlying22 hi hi0 hi1 hi2 rfl (by decide) _ _ _ rfl (hown.alloc _) ⟨_, 0, none⟩ 1 1 [.string s1, .string s2] rfl rfl (World.news_of_block (cs := #[.string s1, .string s2]) (heap_alloc_new _ _)) (by intro u' hu'; simp at hu'; rcases hu' with rfl | rfl <;> rfl) (by unfold maxLen; omega) (by omega) (by simp; omega) ?_; refine Hid.out ?_))
        refine Lib.hid ?_
        intro v2 w3 hown2 hgrow _
        have hnx2 : Below w.heap.size w w3 := (hnx.alloc hs1 _).grown hgrow (by simp; omega) (fun k hk => (hown.lt k hk).1)
        have hown3 : OwnP w3 w.heap.size v2 (pickL (ps.take (k + 1)) ns) := by
          rw [HM2.out]
          exact OwnP.push hown2
        obtain ⟨a6, c6, rfl, -, -, -⟩ := hown3.form
        clear hown2 hgrow
        go_wp2
        go_roundw
        case rel => exact ⟨k + 1, _, _, _, by omega, by go_num, rfl, hown3, hnx2⟩
        case measure => simp [intOf]; omega
      · have hd := inB_no hin
        have HC := Lib.hid (In_any b d ns s1 wr hsw hnl ns.length rfl)
        rw [hd] at HC
        have HM2 := Lib.hid (HO.out hin)
        clear HM HO hd hin hs hsw
        go_wp2_with (go_at_call 34; refine HC.out.mono ?_; rintro e w2 ⟨rfl, rfl⟩)
        go_roundw
        case rel => exact ⟨k + 1, _, _, _, by omega, by go_num, rfl, by rw [HM2.out]; exact hown, hnx⟩
        case measure => simp [intOf]; omega
    · obtain rfl : k = ps.length := by omega
      rw [List.take_length] at hown
      obtain ⟨a6, c6, hv6, -, -, -⟩ := hown.form
      injection hv6 with e1 e2 e3
      subst e1 e3
      have HO := Lib.hid hown
      have HE := Lib.hid e2
      clear hown e2
      go_wp2
      go_ret
      obtain rfl := HE.out
      exact ⟨_, _, rfl, HO.out, hnx⟩

theorem ne_at {xs ys : List Pr} (k : Nat) (h1 : k < xs.length) (h2 : k < ys.length) (h : xs[k] ≠ ys[k]) : xs ≠ ys := fun e => by subst e; exact h rfl

set_option maxHeartbeats 2000000 in
theorem refSame_any (a b : Option Addr) (c d : Nat) (xs ys : List Pr) (w : World) (ha : PairsAt w a xs) (hb : PairsAt w b ys) (hn : xs.length ≤ 9223372036854775807) (n m : Nat) (hnx : n = xs.length) (hmy : m = ys.length) :
    Calls Tryd.prog 16 #[.slice a n c, .slice b m d] w fun e w' => e = .returned (.bool (decide (xs = ys))) ∧ Below w.heap.size w w' := by
  subst hnx hmy
  by_cases hl : xs.length = ys.length
  · have hl' : ((xs.length : Int) != (ys.length : Int)) = false := by rw [hl]; simp
    have HL := Lib.hid hl
    clear hl
    go_enter Tryd.func16, Tryd.ntmps16
    go_wp2
    go_loopw [5] (fun i wr => ∃ k : Nat, k ≤ xs.length ∧ i = .int .i64 k ∧ Below w.heap.size w wr ∧ ∀ j, j < k → ∀ (hj : j < xs.length) (hj' : j < ys.length), xs[j] = ys[j]) (fun i _ => xs.length - (intOf i).toNat)
    case atStart => exact ⟨0, Nat.zero_le _, rfl, Below.refl _ _, fun j hj => absurd hj (Nat.not_lt_zero _)⟩
    case round =>
      obtain ⟨k, hk, rfl, hnx, hall⟩ := hrel
      by_cases hlt : k < xs.length
      · have hkl : (k : Int) < (xs.length : Int) := by omega
        have hlt2 : k < ys.length := by rw [← HL.out]; exact hlt
        have hkl2 : (k : Int) < (ys.length : Int) := by omega
        obtain ⟨b1, o1, rfl, h1⟩ := ha (by omega)
        obtain ⟨b2, o2, rfl, h2⟩ := hb (by omega)
        obtain ⟨hc1, hc2⟩ := h1 k hlt
        obtain ⟨hc3, hc4⟩ := h2 k hlt2
        rw [← hnx.cell (p := ⟨b1, o1 + k * 2, none⟩) (World.block_lt_of_cell? w _ hc1)] at hc1
        rw [← hnx.cell (p := ⟨b1, o1 + k * 2 + 1, none⟩) (World.block_lt_of_cell? w _ hc2)] at hc2
        rw [← hnx.cell (p := ⟨b2, o2 + k * 2, none⟩) (World.block_lt_of_cell? w _ hc3)] at hc3
        rw [← hnx.cell (p := ⟨b2, o2 + k * 2 + 1, none⟩) (World.block_lt_of_cell? w _ hc4)] at hc4
        have hneq := neqP_run xs[k] ys[k]
        simp only [encP] at hneq
        clear h1 h2 ha hb
        by_cases hE : xs[k] = ys[k]
        · have hE' : eqP xs[k] ys[k] = true := (eqP_iff _ _).2 hE
          rw [hE'] at hneq
          have HA := Lib.hid (upto_succ hall fun _ _ => hE)
          clear hall hE hE'
          generalize xs[k] = x at *
          generalize ys[k] = y at *
          go_wp2
          go_quiet (fail)
          go_wp2
          go_roundw
          case rel => exact ⟨k + 1, by omega, by go_num, below_drewN hnx _, HA.out⟩
          case measure => simp [intOf]; omega
        · have hE' : eqP xs[k] ys[k] = false := by
            cases he : eqP xs[k] ys[k]
            · rfl
            · exact absurd ((eqP_iff _ _).1 he) hE
          rw [hE'] at hneq
          have HV := Lib.hid (decide_eq_false (ne_at k hlt hlt2 hE))
          clear hall hE hE'
          generalize xs[k] = x at *
          generalize ys[k] = y at *
          go_wp2
          go_quiet (fail)
          go_wp2
          go_ret
          exact ⟨by rw [HV.out]; rfl, below_drewN hnx _⟩
      · obtain rfl : k = xs.length := by omega
        have HV := Lib.hid (decide_eq_true (List.ext_getElem HL.out fun i h1 h2 => hall i h1 h1 h2))
        clear hall
        go_wp2
        go_ret
        exact ⟨by rw [HV.out]; rfl, hnx⟩
  · have hl' : ((xs.length : Int) != (ys.length : Int)) = true := by simp; omega
    have HV := Lib.hid (decide_eq_false (p := xs = ys) fun e => hl (by rw [e]))
    go_enter Tryd.func16, Tryd.ntmps16
    go_wp2
    go_ret
    exact ⟨by rw [HV.out]; rfl, Below.refl _ _⟩

end Go.Proofs.YtpjmfembpckohaaDoor
