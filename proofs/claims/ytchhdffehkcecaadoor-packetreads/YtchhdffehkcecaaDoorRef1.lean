/-
  The document's answer for P1.1, walked: told, Told, Int, Text, List of the reference.
-/
import Derived.Test.YtchhdffehkcecaaDoorPlain
import Derived.Lib.SlBytesConst
namespace Go.Proofs.YtchhdffehkcecaaDoor
open Go.RowKit

theorem digit_slice (x : Int) (h0 : 0 ≤ x) (h1 : x < 10) (W : World) :
    (Instr.slice 9 (.string ⟨#[48, 49, 50, 51, 52, 53, 54, 55, 56, 57]⟩) (some (.int .u64 x)) (some (.int .u64 (x + 1))) none).run Tryd.prog W = .ok (.string ⟨#[UInt8.ofNat (48 + x.toNat)]⟩) W := by
  have h : x = 0 ∨ x = 1 ∨ x = 2 ∨ x = 3 ∨ x = 4 ∨ x = 5 ∨ x = 6 ∨ x = 7 ∨ x = 8 ∨ x = 9 := by omega
  rcases h with rfl | rfl | rfl | rfl | rfl | rfl | rfl | rfl | rfl | rfl <;> (show _ = _; kernel_rfl)

theorem str_append (a b : List UInt8) : (⟨a.toArray⟩ ++ ⟨b.toArray⟩ : ByteArray) = ⟨(a ++ b).toArray⟩ := by
  apply ByteArray.ext; simp

/-- One digit more ahead. -/
theorem digit_step {u : Nat} {m : Int} {l : List UInt8} (h0 : 0 ≤ m) (h : (l = [] ∧ m = u) ∨ (0 < m ∧ Lib.decDigits u = Lib.decDigits m.toNat ++ l)) :
    (m / 10 = 0 → Lib.decDigits u = UInt8.ofNat (48 + (m % 10).toNat) :: l) ∧ (m / 10 ≠ 0 → Lib.decDigits u = Lib.decDigits (m / 10).toNat ++ (UInt8.ofNat (48 + (m % 10).toNat) :: l)) := by
  have hd : Lib.decDigits u = Lib.decDigits m.toNat ++ l := by
    rcases h with ⟨rfl, rfl⟩ | ⟨_, h⟩
    · simp
    · exact h
  refine ⟨fun hz => ?_, fun hz => ?_⟩
  · rw [hd, Lib.decDigits, dif_pos (by omega), show (m % 10).toNat = m.toNat by omega]; rfl
  · rw [hd, Lib.decDigits, dif_neg (by omega), show m.toNat / 10 = (m / 10).toNat by omega, show m.toNat % 10 = (m % 10).toNat by omega, List.append_assoc]; rfl

set_option maxHeartbeats 1000000 in
set_option maxRecDepth 100000 in
theorem told_any (u : Nat) (hu : u < 18446744073709551616) (w : World) :
    Calls Tryd.prog 73 #[.int .u64 u] w fun e w' => e = .returned (.string ⟨(Lib.decDigits u).toArray⟩) ∧ w' = w := by
  go_enter Tryd.func73, Tryd.ntmps73
  go_wp2
  go_loop [0, 3] (fun n s => ∃ (m : Int) (l : List UInt8), n = .int .u64 m ∧ s = .string ⟨l.toArray⟩ ∧ 0 ≤ m ∧ m ≤ 18446744073709551615 ∧ l.length ≤ 20 ∧ Hid ((l = [] ∧ m = u) ∨ (0 < m ∧ Lib.decDigits u = Lib.decDigits m.toNat ++ l))) (fun n _ => (intOf n).toNat)
  case atStart => exact ⟨u, [], rfl, rfl, by omega, by omega, by simp, .inl ⟨rfl, rfl⟩⟩
  case round =>
    obtain ⟨m, l, rfl, rfl, h0, h1, hl, H⟩ := hrel
    have hst := digit_step h0 H.out
    have hds := fun W => digit_slice (m % 10) (Int.emod_nonneg _ (by decide)) (Int.emod_lt_of_pos _ (by decide)) W
    have hlen : (Lib.decDigits u).length ≤ 20 := by rw [Lib.decDigits_length]; exact Lib.nDigits_le20 u hu
    generalize UInt8.ofNat (48 + (m % 10).toNat) = dg at *
    have HS := Lib.hid hst
    have HL := Lib.hid hlen
    clear hst hlen
    by_cases hz : m / 10 = 0
    · have hzb : (m / 10 == 0) = true := by rw [hz]; rfl
      have HZ := Lib.hid hz
      clear hz
      go_wp2
      go_ret
      refine ⟨?_, rfl⟩
      rw [HS.out.1 HZ.out]
      congr 2
    · have hzb : (m / 10 == 0) = false := by simpa using hz
      have HZ := Lib.hid hz
      clear hz
      go_wp2
      go_round
      case rel =>
        refine ⟨m / 10, dg :: l, rfl, congrArg Value.string (str_append [dg] l), by omega, by omega, ?_, .inr ⟨?_, HS.out.2 HZ.out⟩⟩
        · have h1 := HL.out
          rw [HS.out.2 HZ.out, List.length_append] at h1
          omega
        · have := HZ.out; omega
      case measure =>
        have := HZ.out
        simp [intOf]; omega

theorem told_int (x : Int) (h0 : 0 ≤ x) (h1 : x ≤ 18446744073709551615) (w : World) :
    Calls Tryd.prog 73 #[.int .u64 x] w fun e w' => e = .returned (.string ⟨(Lib.decDigits x.toNat).toArray⟩) ∧ w' = w := by
  have := told_any x.toNat (by omega) w
  rw [Int.toNat_of_nonneg h0] at this
  exact this

set_option maxHeartbeats 1000000 in
set_option maxRecDepth 100000 in
theorem Told_any (n : Int) (h0 : -9223372036854775808 ≤ n) (h1 : n ≤ 9223372036854775807) (w : World) :
    Calls Tryd.prog 64 #[.int .i64 n] w fun e w' => e = .returned (.string ⟨(Lib.itoa n).toArray⟩) ∧ w' = w := by
  have hlen := itoa_len20 n h0 h1
  by_cases hn : n < 0
  · have hit : Lib.itoa n = 45 :: Lib.decDigits n.natAbs := by unfold Lib.itoa; rw [if_pos hn]
    rw [hit] at hlen
    simp only [List.length_cons] at hlen
    have HI := Lib.hid hit
    clear hit
    go_enter Tryd.func64, Tryd.ntmps64
    go_wp2_with (go_at_call 73; refine (told_int (-(n + 1) + 1) (by omega) (by omega) _).mono ?_; rintro e w1 ⟨rfl, rfl⟩; refine Hid.out ?_)
    refine Lib.hid ?_
    rw [show (-(n + 1) + 1).toNat = n.natAbs by omega]
    generalize Lib.decDigits n.natAbs = d at *
    go_wp2
    go_ret
    refine ⟨?_, rfl⟩
    rw [HI.out]
    exact congrArg (fun x => Ending.returned (Value.string x)) (str_append [45] d)
  · have hit : Lib.itoa n = Lib.decDigits n.toNat := by unfold Lib.itoa; rw [if_neg hn]
    have HI := Lib.hid hit
    clear hit
    go_enter Tryd.func64, Tryd.ntmps64
    go_wp2_with (go_at_call 73; refine (told_int n (by omega) (by omega) _).mono ?_; rintro e w1 ⟨rfl, rfl⟩)
    go_ret
    exact ⟨by rw [HI.out]; simp, rfl⟩

/-- []byte(s) of a text that is made. -/
theorem bytes_of_str (w : World) (l : List UInt8) : ∃ a c w', (convert 9 30 (.string ⟨l.toArray⟩)).run Tryd.prog w = .ok (.slice (some a) l.length c) w' ∧ SrcAt w' (.slice (some a) l.length c) l ∧ w.heap.size ≤ a.block ∧ Below w.heap.size w w' := by
  refine ⟨⟨w.heap.size, 0, none⟩, _, _, Lib.run_convert_string_bytes w 9 30 5 ⟨l.toArray⟩ Tryd.underlying9 Tryd.underlying30 Tryd.underlying5, .inr ⟨_, _, rfl, fun i hi => ?_⟩, Nat.le_refl _, Lib.bytesWorld_below _ _ _⟩
  rw [Go.WideShapes.add_plain, Nat.zero_add, Lib.bytesWorld_cell w 5 ⟨l.toArray⟩ i (by show i < l.toArray.size; simpa using hi)]
  simp [List.getD, hi]

set_option maxHeartbeats 1000000 in
set_option maxRecDepth 100000 in
theorem refInt_any (n : Int) (h0 : -9223372036854775808 ≤ n) (h1 : n ≤ 9223372036854775807) (w : World) :
    Calls Tryd.prog 40 #[.int .i64 n] w fun e w' => ∃ a k c, e = .returned (.slice (some a) k c) ∧ SrcAt w' (.slice (some a) k c) (putInt n) ∧ w.heap.size ≤ a.block ∧ Below w.heap.size w w' := by
  have hlen := itoa_len20 n h0 h1
  obtain ⟨a, c, w', hcv, hsrc, hab, hb⟩ := bytes_of_str w (putInt n)
  have e1 : (⟨(putInt n).toArray⟩ : ByteArray) = ⟨#[105]⟩ ++ ⟨(Lib.itoa n).toArray⟩ ++ ⟨#[101]⟩ := by apply ByteArray.ext; simp [putInt]
  rw [e1] at hcv
  have HS := Lib.hid hsrc
  have HT := Lib.hid (Told_any n h0 h1 w)
  clear hsrc e1
  generalize hk : (putInt n).length = k at *
  have HK := Lib.hid hk
  clear hk
  generalize Lib.itoa n = d at *
  go_enter Tryd.func40, Tryd.ntmps40
  go_wp2_with (go_at_call 64; refine HT.out.mono ?_; rintro e w1 ⟨rfl, rfl⟩)
  go_ret
  exact ⟨a, k, c, rfl, HS.out, hab, hb⟩

set_option maxHeartbeats 1000000 in
set_option maxRecDepth 100000 in
theorem refText_any (s : ByteArray) (hs : s.size ≤ 140737488351232) (w : World) :
    Calls Tryd.prog 39 #[.string s] w fun e w' => ∃ a k c, e = .returned (.slice (some a) k c) ∧ SrcAt w' (.slice (some a) k c) (putText s.data.toList) ∧ w.heap.size ≤ a.block ∧ Below w.heap.size w w' := by
  have hlen := itoa_len20 s.size (by omega) (by omega)
  obtain ⟨a, c, w', hcv, hsrc, hab, hb⟩ := bytes_of_str w (putText s.data.toList)
  have e1 : (⟨(putText s.data.toList).toArray⟩ : ByteArray) = ⟨(Lib.itoa s.size).toArray⟩ ++ ⟨#[58]⟩ ++ s := by
    apply ByteArray.ext
    simp [putText]
  rw [e1] at hcv
  have HS := Lib.hid hsrc
  have HT := Lib.hid (Told_any s.size (by omega) (by omega) w)
  clear hsrc e1
  generalize hk : (putText s.data.toList).length = k at *
  have HK := Lib.hid hk
  clear hk
  generalize Lib.itoa s.size = d at *
  go_enter Tryd.func39, Tryd.ntmps39
  go_wp2_with (go_at_call 64; refine HT.out.mono ?_; rintro e w1 ⟨rfl, rfl⟩)
  go_ret
  exact ⟨a, k, c, rfl, HS.out, hab, hb⟩

end Go.Proofs.YtchhdffehkcecaaDoor
