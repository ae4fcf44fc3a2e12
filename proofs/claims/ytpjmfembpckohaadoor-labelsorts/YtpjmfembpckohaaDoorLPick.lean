/-
  What Pick does, and the reference's In, Pick, Get and Same.
-/
import Derived.Test.YtpjmfembpckohaaDoorLab6
import Derived.Test.YtpjmfembpckohaaDoorLSame
import Derived.Deep.AppendLies
import Derived.Laws.OwnMore
namespace Go.Proofs.YtpjmfembpckohaaDoor
open Go.RowKit

/-- Texts lie at an address; where there are none, anywhere. -/
def TextsAt (w : World) (a : Option Addr) (ss : List ByteArray) : Prop :=
  0 < ss.length → ∃ b o, a = some ⟨b, o, none⟩ ∧ ∀ i (hi : i < ss.length), w.cell? ⟨b, o + i, none⟩ = some (.string ss[i])
theorem TextsAt.below {w w' : World} {a : Option Addr} {ss : List ByteArray} {B : Nat} (h : TextsAt w a ss) (hb : Below B w w') (hB : w.heap.size ≤ B) : TextsAt w' a ss := fun hn => by
  obtain ⟨b, o, rfl, hc⟩ := h hn
  exact ⟨b, o, rfl, fun i hi => by rw [hb.cell (Nat.lt_of_lt_of_le (World.block_lt_of_cell? w _ (hc i hi)) hB)]; exact hc i hi⟩

/-- A text is one of some. -/
def inB (s : ByteArray) (ns : List ByteArray) : Bool := ns.any fun x => decide (x = s)
theorem inB_iff {s : ByteArray} {ns : List ByteArray} : inB s ns = true ↔ s ∈ ns := by
  unfold inB
  rw [List.any_eq_true]
  exact ⟨fun ⟨x, hx, e⟩ => of_decide_eq_true e ▸ hx, fun h => ⟨s, h, decide_eq_true rfl⟩⟩
theorem inB_yes {s : ByteArray} {ns : List ByteArray} (h : s ∈ ns) : inB s ns = true := inB_iff.2 h
theorem inB_no {s : ByteArray} {ns : List ByteArray} (h : ¬ s ∈ ns) : inB s ns = false := by
  cases e : inB s ns with
  | false => rfl
  | true => exact absurd (inB_iff.1 e) h

/-- The pairs of some names. -/
def pickL (ps : List Pr) (ns : List ByteArray) : List Pr := ps.filter fun p => inB p.1 ns
theorem pickL_in (ps : List Pr) (ns : List ByteArray) (k : Nat) (hk : k < ps.length) (h : ps[k].1 ∈ ns) : pickL (ps.take (k + 1)) ns = pickL (ps.take k) ns ++ [ps[k]] := by
  unfold pickL
  rw [List.take_succ_eq_append_getElem hk, List.filter_append]
  simp [inB_yes h]
theorem pickL_out (ps : List Pr) (ns : List ByteArray) (k : Nat) (hk : k < ps.length) (h : ¬ ps[k].1 ∈ ns) : pickL (ps.take (k + 1)) ns = pickL (ps.take k) ns := by
  unfold pickL
  rw [List.take_succ_eq_append_getElem hk, List.filter_append]
  simp [inB_no h]
theorem pickL_len (ps : List Pr) (ns : List ByteArray) : (pickL ps ns).length ≤ ps.length := List.length_filter_le _ _

theorem str_beq (x y : ByteArray) : (x.toList == y.toList) = decide (x = y) := by
  rw [ByteArray.toList_eq, ByteArray.toList_eq, Bool.eq_iff_iff, beq_iff_eq, decide_eq_true_eq]
  exact ⟨fun h => Go.WideShapes.bytes_inj h, fun h => by rw [h]⟩

theorem OwnP.push {w : World} {B : Nat} {v : Value} {rs : List Pr} {s1 s2 : ByteArray} (h : w.ownsRow B 35 2 v (rs.length + 1) (cellsP rs ++ [.string s1, .string s2])) : OwnP w B v (rs ++ [(s1, s2)]) := by
  unfold OwnP
  rw [cellsP_append, List.length_append]
  exact h

theorem Contains_any (a : Option Addr) (c : Nat) (ns : List ByteArray) (s : ByteArray) (w : World) (h : TextsAt w a ns) (hn : ns.length ≤ 9223372036854775807) (n : Nat) (hnl : n = ns.length) :
    Calls Tryd.prog 33 #[.slice a n c, .string s] w fun e w' => e = .returned (.bool (inB s ns)) ∧ w' = w := by
  subst hnl
  by_cases hp : 0 < ns.length
  · obtain ⟨b, o, rfl, hc⟩ := h hp
    have hcon := Any.slices_Contains_string Tryd.lContains b o ns.length c ns s w (Nat.le_refl _) hn (fun j hj => by rw [hc j hj]; simp [List.getD, hj])
    rw [List.take_length] at hcon
    have he : Lib.containsS ns s = inB s ns := by rw [Bool.eq_iff_iff, Lib.containsS_iff, inB_iff]
    rw [he] at hcon
    exact hcon
  · obtain rfl := List.eq_nil_of_length_eq_zero (show ns.length = 0 by omega)
    exact Any.slices_Contains_string_empty Tryd.lContains a c s w

set_option maxHeartbeats 1000000 in
theorem In_any (a : Option Addr) (c : Nat) (ns : List ByteArray) (s : ByteArray) (w : World) (h : TextsAt w a ns) (hn : ns.length ≤ 9223372036854775807) (n : Nat) (hnl : n = ns.length) :
    Calls Tryd.prog 34 #[.slice a n c, .string s] w fun e w' => e = .returned (.bool (inB s ns)) ∧ w' = w := by
  subst hnl
  go_enter Tryd.func34, Tryd.ntmps34
  go_wp2
  go_loop [5] (fun i => ∃ k : Nat, k ≤ ns.length ∧ i = .int .i64 k ∧ ∀ j, j < k → ∀ hj : j < ns.length, ns[j] ≠ s) (fun i => ns.length - (intOf i).toNat)
  case atStart => exact ⟨0, Nat.zero_le _, rfl, fun j hj => absurd hj (Nat.not_lt_zero _)⟩
  case round =>
    obtain ⟨k, hk, rfl, hall⟩ := hrel
    by_cases hlt : k < ns.length
    · have hkl : (k : Int) < (ns.length : Int) := by omega
      obtain ⟨b, o, rfl, hc⟩ := h (by omega)
      have hc1 := hc k hlt
      clear hc h
      by_cases hE : ns[k] = s
      · have hE' : (ns[k].toList == s.toList) = true := by rw [str_beq]; exact decide_eq_true hE
        have HV := Lib.hid (inB_yes (show s ∈ ns by rw [← hE]; exact List.getElem_mem hlt))
        clear hall hE
        go_wp2
        go_ret
        exact ⟨by rw [HV.out]; rfl, rfl⟩
      · have hE' : (ns[k].toList == s.toList) = false := by rw [str_beq]; exact decide_eq_false hE
        have HA := Lib.hid (upto_succ hall fun _ => hE)
        clear hall hE
        go_wp2
        go_round
        case rel => exact ⟨k + 1, by omega, by go_num, HA.out⟩
        case measure => simp [intOf]; omega
    · obtain rfl : k = ns.length := by omega
      have HV : Hid (inB s ns = false) := Lib.hid (inB_no fun hm => by
        obtain ⟨i, hi, e⟩ := List.getElem_of_mem hm
        exact hall i hi hi e)
      clear hall
      go_wp2
      go_ret
      exact ⟨by rw [HV.out]; rfl, rfl⟩

set_option maxHeartbeats 2000000 in
set_option maxRecDepth 100000 in
theorem Pick_any (a b : Option Addr) (c d : Nat) (ps : List Pr) (ns : List ByteArray) (w : World) (h : PairsAt w a ps) (hs : TextsAt w b ns) (hl : ps.length ≤ 4398046511102) (hnl : ns.length ≤ 9223372036854775807) (n : Nat) (hn : n = ps.length) (m : Nat) (hm : m = ns.length) :
    Calls Tryd.prog 17 #[.slice a n c, .slice b m d] w fun e w' => ∃ a' c', e = .returned (.slice a' (pickL ps ns).length c') ∧ OwnP w' w.heap.size (.slice a' (pickL ps ns).length c') (pickL ps ns) ∧ Below w.heap.size w w' := by
  subst hn hm
  obtain ⟨i0, hi, hi0, hi1, hi2⟩ := info_parts infoPair
  go_enter Tryd.func17, Tryd.ntmps17
  go_wp2
  go_loopw [5, 10] (fun v i wr => ∃ (k : Nat) (a5 : Option Addr) (n5 c5 : Nat), k ≤ ps.length ∧ i = .int .i64 k ∧ v = .slice a5 n5 c5 ∧ OwnP wr w.heap.size (.slice a5 n5 c5) (pickL (ps.take k) ns) ∧ Below w.heap.size w wr) (fun _ i _ => ps.length - (intOf i).toNat)
  case atStart => exact ⟨0, none, 0, 0, Nat.zero_le _, rfl, rfl, World.ownsRow_nil _ _ _ _, Below.refl _ _⟩
  case round =>
    obtain ⟨k, a5, n5, c5, hk, rfl, rfl, hown, hnx⟩ := hrel
    have hs1 := hnx.size
    by_cases hlt : k < ps.length
    · have hkl : (k : Int) < (ps.length : Int) := by omega
      obtain ⟨b0, o, rfl, hc⟩ := h (by omega)
      obtain ⟨hc1, hc2⟩ := hc k hlt
      rw [← hnx.cell (p := ⟨b0, o + k * 2, none⟩) (World.block_lt_of_cell? w _ hc1)] at hc1
      rw [← hnx.cell (p := ⟨b0, o + k * 2 + 1, none⟩) (World.block_lt_of_cell? w _ hc2)] at hc2
      have HM := Lib.hid (pickL_in ps ns k hlt)
      have HO := Lib.hid (pickL_out ps ns k hlt)
      have hlen : (pickL (ps.take k) ns).length + 1 ≤ 4398046511103 := by have := pickL_len (ps.take k) ns; simp at this; omega
      clear hc h
      generalize ps[k] = pk at *
      obtain ⟨s1, s2⟩ := pk
      have hwb : Below w.heap.size w (wr.alloc (.cells #[.string s1, .string s2] 35)) := hnx.alloc hs1 _
      have hownb : OwnP (wr.alloc (.cells #[.string s1, .string s2] 35)) w.heap.size (.slice a5 n5 c5) (pickL (ps.take k) ns) := World.ownsRow.alloc hown _
      have hx1 : (wr.alloc (.cells #[.string s1, .string s2] 35)).cell? ⟨wr.heap.size, 0, none⟩ = some (.string s1) := by rw [World.cell?_alloc_mark]; rfl
      have hx2 : (wr.alloc (.cells #[.string s1, .string s2] 35)).cell? ⟨wr.heap.size, 1, none⟩ = some (.string s2) := by rw [World.cell?_alloc_mark]; rfl
      generalize (pickL (ps.take k) ns) = rs at *
      by_cases hin : s1 ∈ ns
      · have hd := inB_yes hin
        have HC := Lib.hid (fun w1 (hb : Below w.heap.size w w1) => Contains_any b d ns s1 w1 (hs.below hb (Nat.le_refl _)) hnl ns.length rfl)
        rw [hd] at HC
        have HM2 := Lib.hid (HM.out hin)
        clear HM HO hd hin hs
        go_wp2_with fail
        generalize wr.alloc (.cells #[.string s1, .string s2] 35) = wb at *
        have hwbs := hwb.size
        generalize wr.heap.size = x at *
        clear hc1 hc2 hown hnx
        go_wp2_with (first
          | (go_at_call 33; refine (HC.out _ hwb).mono ?_; rintro e w2 ⟨rfl, rfl⟩)
          | (at_builtin; refine wpList_append_own _ rfl _ _ 22 rfl w.heap.size 35 i0 _ 2 32 Tryd.underlying22 hi hi0 hi1 hi2 rfl (by decide) _ _ _ rfl (hownb.alloc _) ⟨_, 0, none⟩ 1 1 [.string s1, .string s2] rfl rfl (World.news_of_block (cs := #[.string s1, .string s2]) (heap_alloc_new _ _)) (by intro u' hu'; simp at hu'; rcases hu' with rfl | rfl <;> rfl) (by unfold maxLen; omega) (by omega) (by simp; omega) ?_; refine Hid.out ?_))
        refine Lib.hid ?_
        intro v2 w2 hown2 hgrow _
        have hnx2 : Below w.heap.size w w2 := (hwb.alloc hwbs _).grown hgrow (by simp; omega) (fun k hk => (hownb.lt k hk).1)
        have hown3 : OwnP w2 w.heap.size v2 (pickL (ps.take (k + 1)) ns) := by
          rw [HM2.out]
          exact OwnP.push hown2
        obtain ⟨a6, c6, rfl, -, -, -⟩ := hown3.form
        clear hown2 hgrow
        go_wp2
        go_roundw
        case rel => exact ⟨k + 1, _, _, _, by omega, by go_num, rfl, hown3, hnx2⟩
        case measure => simp [intOf]; omega
      · have hd := inB_no hin
        have HC := Lib.hid (fun w1 (hb : Below w.heap.size w w1) => Contains_any b d ns s1 w1 (hs.below hb (Nat.le_refl _)) hnl ns.length rfl)
        rw [hd] at HC
        have HM2 := Lib.hid (HO.out hin)
        clear HM HO hd hin hs
        go_wp2_with fail
        generalize wr.alloc (.cells #[.string s1, .string s2] 35) = wb at *
        generalize wr.heap.size = x at *
        clear hc1 hc2 hown hnx
        go_wp2_with (go_at_call 33; refine (HC.out _ hwb).mono ?_; rintro e w2 ⟨rfl, rfl⟩)
        go_roundw
        case rel => exact ⟨k + 1, _, _, _, by omega, by go_num, rfl, by rw [HM2.out]; exact hownb, hwb⟩
        case measure => simp [intOf]; omega
    · obtain rfl : k = ps.length := by omega
      rw [List.take_length] at hown
      obtain ⟨a6, c6, hv6, -, -, -⟩ := hown.form
      injection hv6 with e1 e2 e3
      subst e1 e3
      have HO := Lib.hid hown
      have HE := Lib.hid e2
      clear hown e2
      go_wp2
      go_ret
      obtain rfl := HE.out
      exact ⟨_, _, rfl, HO.out, hnx⟩

end Go.Proofs.YtpjmfembpckohaaDoor
