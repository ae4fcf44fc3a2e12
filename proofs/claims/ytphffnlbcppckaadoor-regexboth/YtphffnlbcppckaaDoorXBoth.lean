/-
  The walk of RegexBoth.
-/
import Derived.Test.YtphffnlbcppckaaDoorXOr
namespace Go.Proofs.YtphffnlbcppckaaDoor
open Go.RowKit

theorem extract_list (t : ByteArray) (i j : Nat) : (t.extract i j).data.toList = (t.data.toList.drop i).take (j - i) := by
  rw [ByteArray.data_extract, Array.toList_extract]
theorem extract_pre (t : ByteArray) (k : Nat) : (t.extract 0 k).data.toList = t.data.toList.take k := by rw [extract_list]; simp
theorem extract_post (t : ByteArray) (k : Nat) : (t.extract k t.size).data.toList = t.data.toList.drop k := by
  rw [extract_list]
  exact List.take_of_length_le (by simp)
theorem some_more {A B : Lang} {l : List UInt8} {k : Nat} {b c : Bool} (h : b = true ↔ ∃ j, j < k ∧ A (l.take j) ∧ B (l.drop j)) (hc : c = true ↔ b = true ∨ (A (l.take k) ∧ B (l.drop k))) : c = true ↔ ∃ j, j < k + 1 ∧ A (l.take j) ∧ B (l.drop j) := by
  rw [hc, h]
  constructor
  · rintro (⟨j, h1, h2⟩ | h2)
    · exact ⟨j, by omega, h2⟩
    · exact ⟨k, by omega, h2⟩
  · rintro ⟨j, h1, h2⟩
    by_cases e : j = k
    · subst e; exact .inr h2
    · exact .inl ⟨j, by omega, h2⟩
theorem cat_cut {A B : Lang} {l : List UInt8} : catL A B l ↔ ∃ j, j < l.length + 1 ∧ A (l.take j) ∧ B (l.drop j) := by
  constructor
  · rintro ⟨u, v, rfl, h1, h2⟩
    exact ⟨u.length, by simp; omega, by simpa using h1, by simpa using h2⟩
  · rintro ⟨j, -, h1, h2⟩
    exact ⟨l.take j, l.drop j, (List.take_append_drop j l).symm, h1, h2⟩

theorem comp_ok (s : ByteArray) (w : World) (htab : TabW w) (he : errE s.data.toList = 0) (A : Lang) (hA : pParse s.data.toList = some A) :
    Calls Tryd.prog 10 #[.string s] w fun e w' => ∃ xb, e = .returned (.tuple #[.pointer (some ⟨xb, 0, none⟩), .int .i64 0]) ∧ PatAt w' xb A ∧ Below w.heap.size w w' :=
  comp_good s w (by simpa using (errE_zero he).1) htab A hA

set_option maxHeartbeats 2000000 in
theorem both_walk (p q t : ByteArray) (w : World) (hts : t.size ≤ 9223372036854775807) (htab : TabW w) : Calls Tryd.prog 8 #[.string p, .string q, .string t] w fun e w' => e = .returned (.bool true) ∧ Below w.heap.size w w' := by
  have htl := htab.lt
  have HA := Lib.hid (awake_any w htab)
  by_cases h1 : 40 < t.size
  · have h1' : (40 : Int) < (t.size : Int) := by omega
    go_enter Tryd.func8, Tryd.ntmps8
    go_wp2_with (go_at_call 9; refine HA.out.mono ?_; rintro e w1 ⟨rfl, hb1⟩)
    go_ret
    exact ⟨rfl, hb1⟩
  have h1' : ¬ (40 : Int) < (t.size : Int) := by omega
  by_cases h2 : 28 < p.size
  · have h2' : (28 : Int) < (p.size : Int) := by omega
    go_enter Tryd.func8, Tryd.ntmps8
    go_wp2_with (go_at_call 9; refine HA.out.mono ?_; rintro e w1 ⟨rfl, hb1⟩)
    go_ret
    exact ⟨rfl, hb1⟩
  have h2' : ¬ (28 : Int) < (p.size : Int) := by omega
  by_cases h3 : 28 < q.size
  · have h3' : (28 : Int) < (q.size : Int) := by omega
    go_enter Tryd.func8, Tryd.ntmps8
    go_wp2_with (go_at_call 9; refine HA.out.mono ?_; rintro e w1 ⟨rfl, hb1⟩)
    go_ret
    exact ⟨rfl, hb1⟩
  have h3' : ¬ (28 : Int) < (q.size : Int) := by omega
  clear HA
  by_cases hep : errE p.data.toList = 0
  · by_cases heq : errE q.data.toList = 0
    · obtain ⟨hl1, A, hpA⟩ := errE_zero hep
      obtain ⟨hl2, B, hqB⟩ := errE_zero heq
      obtain ⟨C, hC1, hC2⟩ := parse_two hpA hqB
      have H1 := Lib.hid (comp_ok p w htab hep A hpA)
      have H2 := Lib.hid (fun u (hu : TabW u) => comp_ok q u hu heq B hqB)
      have H4 := Lib.hid (fun u (hu : TabW u) => like_good (⟨#[40]⟩ ++ p ++ ⟨#[41, 40]⟩ ++ q ++ ⟨#[41]⟩) t u (by simp [ByteArray.size_append, ba_size]; omega) hu C (by simp only [app_list, List.append_assoc]; exact hC1) hts)
      have HC := Lib.hid (hC2 t.data.toList)
      clear hep heq hpA hqB hC1 hC2 hl1 hl2
      go_enter Tryd.func8, Tryd.ntmps8
      go_wp2_with (go_at_call 10; refine H1.out.mono ?_; rintro e w1 ⟨xa, rfl, hpa, hb1⟩; refine Hid.out ?_)
      refine Lib.hid ?_
      have ht1 := htab.on hb1 htl
      go_wp2_with (go_at_call 10; refine (H2.out w1 ht1).mono ?_; rintro e w2 ⟨xq, rfl, hpq, hb2⟩; refine Hid.out ?_)
      refine Lib.hid ?_
      have ht2 := ht1.on hb2 ht1.lt
      have hpa2 := hpa.below hb2
      have HMa := Lib.hid (fun (u : ByteArray) (hu : u.size ≤ 9223372036854775807) => match_pat xa A u w2 hpa2 hu ht2)
      have HMb := Lib.hid (fun (u : ByteArray) (hu : u.size ≤ 9223372036854775807) => match_pat xq B u w2 hpq hu ht2)
      go_wp2_with fail
      go_loop [11, 12] (fun m i => ∃ (k : Nat) (b : Bool), k ≤ t.size + 1 ∧ i = .int .i64 k ∧ m = .bool b ∧ Hid (b = true ↔ ∃ j, j < k ∧ A (t.data.toList.take j) ∧ B (t.data.toList.drop j))) (fun _ i => t.size + 1 - (intOf i).toNat)
      case atStart => exact ⟨0, false, by omega, rfl, rfl, Lib.hid ⟨(fun h => by cases h), fun ⟨j, hj, _⟩ => absurd hj (by omega)⟩⟩
      case round =>
        obtain ⟨k, b, hk, rfl, rfl, HB⟩ := hrel
        by_cases hlt : k ≤ t.size
        · have hki : (k : Int) ≤ (t.size : Int) := by omega
          have HP := Lib.hid (And.intro (extract_pre t k) (extract_post t k))
          have hsp : (t.extract 0 k).size ≤ 9223372036854775807 := by rw [ByteArray.size_extract]; omega
          have hsq : (t.extract k t.size).size ≤ 9223372036854775807 := by rw [ByteArray.size_extract]; omega
          cases b with
          | true =>
            go_wp2
            go_round
            case rel => exact ⟨k + 1, true, by omega, by go_num, rfl, Lib.hid (some_more HB.out ⟨fun _ => .inl rfl, fun _ => rfl⟩)⟩
            case measure => simp [intOf]; omega
          | false =>
            go_wp2_with (go_at_call 14; refine (HMa.out _ hsp).mono ?_; rintro e w3 ⟨⟨x, rfl, hx⟩, hw3⟩; rw [hw3]; clear hw3; refine Hid.out ?_)
            refine Lib.hid ?_
            rw [HP.out.1] at hx
            have HX := Lib.hid hx
            clear hx
            obtain ⟨x', hx'⟩ : ∃ x', x' = x := ⟨_, rfl⟩
            rw [← hx'] at HX
            cases x with
            | false =>
              have HX' := Lib.hid hx'
              clear hx'
              go_wp2
              go_round
              case rel => exact ⟨k + 1, false, by omega, by go_num, rfl, Lib.hid (some_more HB.out ⟨(fun h => by cases h), (fun h => h.elim id (fun h => absurd (HX.out.2 h.1) (by rw [HX'.out]; decide)))⟩)⟩
              case measure => simp [intOf]; omega
            | true =>
              have HX' := Lib.hid hx'
              clear hx'
              go_wp2_with (go_at_call 14; refine (HMb.out _ hsq).mono ?_; rintro e w3 ⟨⟨y, rfl, hy⟩, hw3⟩; rw [hw3]; clear hw3; refine Hid.out ?_)
              refine Lib.hid ?_
              rw [HP.out.2] at hy
              have HY := Lib.hid hy
              clear hy
              go_wp2
              go_round
              case rel => exact ⟨k + 1, y, by omega, by go_num, rfl, Lib.hid (some_more HB.out ⟨(fun h => .inr ⟨HX.out.1 HX'.out, HY.out.1 h⟩), (fun h => h.elim (fun h => by cases h) (fun h => HY.out.2 h.2))⟩)⟩
              case measure => simp [intOf]; omega
        · obtain rfl : k = t.size + 1 := by omega
          have hki : ¬ ((t.size + 1 : Nat) : Int) ≤ (t.size : Int) := by omega
          go_wp2_with (go_at_call 12; refine (H4.out w2 ht2).mono ?_; rintro e w4 ⟨⟨c, rfl, hc⟩, hb4⟩; refine Hid.out ?_)
          refine Lib.hid ?_
          obtain rfl : c = b := by
            rw [Bool.eq_iff_iff, hc, HC.out, HB.out, cat_cut]
            simp
          clear hc
          have ht4 := ht2.on hb4 ht2.lt
          have hbb := (hb1.trans (hb2.mono hb1.size)).trans (hb4.mono (Nat.le_trans hb1.size hb2.size))
          have HW := Lib.hid (awake_any w4 ht4)
          cases c
          all_goals
            go_wp2_with (go_at_call 9; refine HW.out.mono ?_; rintro e w5 ⟨rfl, hb5⟩)
            go_ret
            exact ⟨rfl, hbb.trans (hb5.mono hbb.size)⟩
    · obtain ⟨hl1, A, hpA⟩ := errE_zero hep
      have H1 := Lib.hid (comp_ok p w htab hep A hpA)
      have H2 := Lib.hid (fun u (hu : TabW u) => comp_err q u hu heq)
      have hz : ((errE q.data.toList : Int) != 0) = true := by simpa using heq
      clear hep hpA
      generalize errE q.data.toList = E at *
      clear heq
      go_enter Tryd.func8, Tryd.ntmps8
      go_wp2_with (go_at_call 10; refine H1.out.mono ?_; rintro e w1 ⟨xa, rfl, -, hb1⟩; refine Hid.out ?_)
      refine Lib.hid ?_
      have ht1 := htab.on hb1 htl
      go_wp2_with (go_at_call 10; refine (H2.out w1 ht1).mono ?_; rintro e w2 ⟨rfl, hb2⟩; refine Hid.out ?_)
      refine Lib.hid ?_
      have ht2 := ht1.on hb2 ht1.lt
      have hbb := hb1.trans (hb2.mono hb1.size)
      have HW := Lib.hid (awake_any w2 ht2)
      go_wp2_with (go_at_call 9; refine HW.out.mono ?_; rintro e w5 ⟨rfl, hb5⟩)
      go_ret
      exact ⟨rfl, hbb.trans (hb5.mono hbb.size)⟩
  · have H1 := Lib.hid (comp_err p w htab hep)
    have hz : ((errE p.data.toList : Int) != 0) = true := by simpa using hep
    generalize errE p.data.toList = E at *
    clear hep
    by_cases heq : errE q.data.toList = 0
    · obtain ⟨hl1, B, hqB⟩ := errE_zero heq
      have H2 := Lib.hid (fun u (hu : TabW u) => comp_ok q u hu heq B hqB)
      clear heq hqB
      go_enter Tryd.func8, Tryd.ntmps8
      go_wp2_with (go_at_call 10; refine H1.out.mono ?_; rintro e w1 ⟨rfl, hb1⟩; refine Hid.out ?_)
      refine Lib.hid ?_
      have ht1 := htab.on hb1 htl
      go_wp2_with (go_at_call 10; refine (H2.out w1 ht1).mono ?_; rintro e w2 ⟨xq, rfl, -, hb2⟩; refine Hid.out ?_)
      refine Lib.hid ?_
      have ht2 := ht1.on hb2 ht1.lt
      have hbb := hb1.trans (hb2.mono hb1.size)
      have HW := Lib.hid (awake_any w2 ht2)
      go_wp2_with (go_at_call 9; refine HW.out.mono ?_; rintro e w5 ⟨rfl, hb5⟩)
      go_ret
      exact ⟨rfl, hbb.trans (hb5.mono hbb.size)⟩
    · have H2 := Lib.hid (fun u (hu : TabW u) => comp_err q u hu heq)
      generalize errE q.data.toList = E2 at *
      clear heq
      go_enter Tryd.func8, Tryd.ntmps8
      go_wp2_with (go_at_call 10; refine H1.out.mono ?_; rintro e w1 ⟨rfl, hb1⟩; refine Hid.out ?_)
      refine Lib.hid ?_
      have ht1 := htab.on hb1 htl
      go_wp2_with (go_at_call 10; refine (H2.out w1 ht1).mono ?_; rintro e w2 ⟨rfl, hb2⟩; refine Hid.out ?_)
      refine Lib.hid ?_
      have ht2 := ht1.on hb2 ht1.lt
      have hbb := hb1.trans (hb2.mono hb1.size)
      have HW := Lib.hid (awake_any w2 ht2)
      go_wp2_with (go_at_call 9; refine HW.out.mono ?_; rintro e w5 ⟨rfl, hb5⟩)
      go_ret
      exact ⟨rfl, hbb.trans (hb5.mono hbb.size)⟩

end Go.Proofs.YtphffnlbcppckaaDoor
