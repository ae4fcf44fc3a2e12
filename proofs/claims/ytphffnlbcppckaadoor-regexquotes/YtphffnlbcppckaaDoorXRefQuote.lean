/-
  The document's special bytes, and its Quote.
-/
import Derived.Test.YtphffnlbcppckaaDoorXAwake
namespace Go.Proofs.YtphffnlbcppckaaDoor
open Go.RowKit

theorem spec_mem (c : UInt8) : isSpec c = true ↔ c ∈ specs := by unfold isSpec; simp
set_option maxHeartbeats 1000000 in
theorem refSpecial_any (c : UInt8) (w : World) : Calls Tryd.prog 22 #[.int .u8 c.toNat] w fun e w' => e = .returned (.bool (isSpec c)) ∧ w' = w := by
  cases hs : isSpec c with
  | true =>
    have h := (spec_mem c).1 hs
    clear hs
    simp only [specs, List.mem_cons, List.not_mem_nil, or_false] at h
    rcases h with rfl | rfl | rfl | rfl | rfl | rfl | rfl | rfl | rfl | rfl
    all_goals
      go_enter Tryd.func22, Tryd.ntmps22
      go_wp2
      go_ret
      exact ⟨rfl, rfl⟩
  | false =>
    have h : ∀ d ∈ specs, c ≠ d := fun d hd e => by
      rw [e, (spec_mem d).2 hd] at hs
      cases hs
    clear hs
    have m0 := n8 (z := 40) (h 40 (by decide)) rfl
    have m1 := n8 (z := 41) (h 41 (by decide)) rfl
    have m2 := n8 (z := 91) (h 91 (by decide)) rfl
    have m3 := n8 (z := 93) (h 93 (by decide)) rfl
    have m4 := n8 (z := 124) (h 124 (by decide)) rfl
    have m5 := n8 (z := 42) (h 42 (by decide)) rfl
    have m6 := n8 (z := 43) (h 43 (by decide)) rfl
    have m7 := n8 (z := 63) (h 63 (by decide)) rfl
    have m8 := n8 (z := 46) (h 46 (by decide)) rfl
    have m9 := n8 (z := 92) (h 92 (by decide)) rfl
    clear h
    go_enter Tryd.func22, Tryd.ntmps22
    go_wp2
    go_ret
    exact ⟨rfl, rfl⟩

set_option maxHeartbeats 2000000 in
theorem refQuote_any (s : ByteArray) (w : World) (hs : s.size ≤ 1048576) : Calls Tryd.prog 16 #[.string s] w fun e w' => e = .returned (.string ⟨(quoteL s.data.toList).toArray⟩) ∧ Below w.heap.size w w' := by
  obtain ⟨i0, hi, hi0, hi1, hi2⟩ := info_parts infoByte
  have HI := Lib.hid (And.intro hi0 (And.intro hi1 hi2))
  clear hi0 hi1 hi2
  go_enter Tryd.func16, Tryd.ntmps16
  go_wp2
  go_loopw [3, 4] (fun v i wr => ∃ (k : Nat) (a : Option Addr) (c : Nat), k ≤ s.size ∧ i = .int .i64 k ∧ v = .slice a (quoteL (s.data.toList.take k)).length c ∧ OwnB wr w.heap.size v (quoteL (s.data.toList.take k)) ∧ Below w.heap.size w wr) (fun _ i _ => s.size - (intOf i).toNat)
  case atStart => exact ⟨0, none, 0, Nat.zero_le _, rfl, rfl, World.ownsRow_nil _ _ _ _, Below.refl _ _⟩
  case round =>
    obtain ⟨k, a, c, hk, rfl, rfl, hown, hb⟩ := hrel
    by_cases hlt : k < s.size
    · have hki : (k : Int) < (s.size : Int) := by omega
      have HT := Lib.hid (take_snoc s k hlt)
      have HQ := Lib.hid (refSpecial_any s[k])
      have hlen := quoteL_len (s.data.toList.take k)
      rw [List.length_take] at hlen
      have hl2 : (quoteL (s.data.toList.take k)).length ≤ 2097152 := by omega
      clear hlen
      have hbs := hb.size
      have HX : Hid (quoteL (s.data.toList.take (k + 1)) = quoteL (s.data.toList.take k) ++ quoteC s[k]) := Lib.hid (by rw [HT.out, quoteL_snoc])
      generalize quoteL (s.data.toList.take k) = L at *
      cases hsp : isSpec s[k] with
      | true =>
        rw [hsp] at HQ
        have HC : Hid (quoteC s[k] = [92, s[k]]) := Lib.hid (by unfold quoteC; rw [hsp]; rfl)
        clear hsp
        go_wp2_with (first | (go_at_call 22; refine (HQ.out _).mono ?_; rintro e w' ⟨rfl, hw'⟩; rw [hw']; clear hw') | (at_builtin; refine Hid.out ?_))
        refine Lib.hid ?_
        refine wpList_append_own_at _ rfl _ _ 52 rfl w.heap.size 5 i0 (.int .u8 0) 1 1 Tryd.underlying52 hi HI.out.1 HI.out.2.1 HI.out.2.2 rfl (by decide) (.slice a L.length c) _ _ rfl (hown.alloc _) ⟨wr.heap.size, 0, none⟩ 1 1 [Value.int .u8 92] rfl rfl (cell_one_new _ _ _) (by intro u' hu'; simp at hu'; subst hu'; rfl) (by unfold maxLen; omega) (by omega) (by simp; omega) ?_
        intro v2 w2 hown2 hgrow _ hat
        have ho2 := append_byte (c := 92) hown2 rfl
        have hb2 : Below w.heap.size w w2 := (hb.alloc hbs _).grown hgrow (by simp; omega) (fun j hj => (hown.lt j hj).1)
        have hbs2 := hb2.size
        obtain ⟨a2, c2, hv2⟩ := ho2.form
        rw [List.length_append, List.length_singleton] at hv2
        subst hv2
        clear hown2 hgrow hat hown hb
        go_wp2_with (at_builtin; refine Hid.out ?_)
        refine Lib.hid ?_
        refine wpList_append_own_at _ rfl _ _ 52 rfl w.heap.size 5 i0 (.int .u8 0) 1 1 Tryd.underlying52 hi HI.out.1 HI.out.2.1 HI.out.2.2 rfl (by decide) (.slice a2 (L.length + 1) c2) _ _ rfl (ho2.alloc _) ⟨w2.heap.size, 0, none⟩ 1 1 [Value.int .u8 s[k].toNat] rfl rfl (cell_one_new _ _ _) (by intro u' hu'; simp at hu'; subst hu'; rfl) (by simp; unfold maxLen; omega) (by simp; omega) (by simp; omega) ?_
        intro v3 w3 hown3 hgrow _ hat
        have ho3 := append_byte (c := s[k]) hown3 rfl
        have hb3 : Below w.heap.size w w3 := (hb2.alloc hbs2 _).grown hgrow (by simp; omega) (fun j hj => (ho2.lt j hj).1)
        obtain ⟨a3, c3, hv3⟩ := ho3.form
        rw [List.length_append, List.length_append, List.length_singleton, List.length_singleton] at hv3
        subst hv3
        clear hown3 hgrow hat ho2 hb2
        go_wp2
        have e : quoteL (s.data.toList.take (k + 1)) = L ++ [92] ++ [s[k]] := by rw [HX.out, HC.out]; simp
        exact ⟨⟨k + 1, a3, c3, by omega, by go_num, by rw [e]; simp, by rw [e]; exact ho3, hb3⟩, by simp [intOf]; omega⟩
      | false =>
        rw [hsp] at HQ
        have HC : Hid (quoteC s[k] = [s[k]]) := Lib.hid (by unfold quoteC; rw [hsp]; rfl)
        clear hsp
        go_wp2_with (first | (go_at_call 22; refine (HQ.out _).mono ?_; rintro e w' ⟨rfl, hw'⟩; rw [hw']; clear hw') | (at_builtin; refine Hid.out ?_))
        refine Lib.hid ?_
        refine wpList_append_own_at _ rfl _ _ 52 rfl w.heap.size 5 i0 (.int .u8 0) 1 1 Tryd.underlying52 hi HI.out.1 HI.out.2.1 HI.out.2.2 rfl (by decide) (.slice a L.length c) _ _ rfl (hown.alloc _) ⟨wr.heap.size, 0, none⟩ 1 1 [Value.int .u8 s[k].toNat] rfl rfl (cell_one_new _ _ _) (by intro u' hu'; simp at hu'; subst hu'; rfl) (by unfold maxLen; omega) (by omega) (by simp; omega) ?_
        intro v2 w2 hown2 hgrow _ hat
        have ho2 := append_byte (c := s[k]) hown2 rfl
        have hb2 : Below w.heap.size w w2 := (hb.alloc hbs _).grown hgrow (by simp; omega) (fun j hj => (hown.lt j hj).1)
        obtain ⟨a2, c2, hv2⟩ := ho2.form
        rw [List.length_append, List.length_singleton] at hv2
        subst hv2
        clear hown2 hgrow hat hown hb
        go_wp2
        have e : quoteL (s.data.toList.take (k + 1)) = L ++ [s[k]] := by rw [HX.out, HC.out]
        exact ⟨⟨k + 1, a2, c2, by omega, by go_num, by rw [e]; simp, by rw [e]; exact ho2, hb2⟩, by simp [intOf]; omega⟩
    · obtain rfl : k = s.size := by omega
      have e : s.data.toList.take s.size = s.data.toList := List.take_of_length_le (by simp)
      rw [e] at hown ⊢
      have hcv := own_string hown
      clear hown
      go_wp2
      go_ret
      exact ⟨rfl, hb⟩

end Go.Proofs.YtphffnlbcppckaaDoor
