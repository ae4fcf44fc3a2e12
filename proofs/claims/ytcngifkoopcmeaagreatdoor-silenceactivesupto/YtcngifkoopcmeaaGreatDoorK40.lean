/-
  number of the reference, walked.
-/
import Derived.Test.YtcngifkoopcmeaaGreatDoorK39
namespace Go.Proofs.YtcngifkoopcmeaaGreatDoor
open Go.RowKit

set_option maxHeartbeats 2000000 in
set_option maxRecDepth 100000 in
theorem refnumber_neg (d : List UInt8) (w : World) (hl : d.length ≤ 1000) (n : Int) (h0 : -9223372036854775808 ≤ n) (hn : n < 0) (hi : Lib.itoa n = 45 :: d) :
    Calls Tryz.prog 127 #[.string ⟨(45 :: d).toArray⟩] w fun r w' => r = .returned (.tuple #[.int .i64 n, .bool true]) ∧ w' = w := by
  have hd : d = Lib.decDigits n.natAbs := by
    have := itoa_neg hn
    rw [hi] at this
    simpa using this
  have HALL : Hid (AllD d) := Lib.hid (by rw [hd]; exact dec_digits _)
  have hd19 : d.length ≤ 19 := by rw [hd, Lib.decDigits_length]; exact nDigits_le19 _ (by omega)
  have HN : Hid (valD (d.take 19) = n.natAbs) := Lib.hid (by rw [List.take_of_length_le hd19, hd, valD_dec])
  have HI := Lib.hid hi
  clear hd hi
  have hs0 := size_str (45 :: d)
  have hg0 : (⟨(45 :: d).toArray⟩ : ByteArray)[0]'(by rw [hs0]; simp) = 45 := rfl
  have hex := extract_one 45 d
  rw [hs0, List.length_cons] at hex
  have hst : ((45 :: d) == (⟨(45 :: d).toArray⟩ : ByteArray).toList) = true := by rw [ByteArray.toList_eq]; simp
  simp only [List.length_cons] at hs0
  have hsp : (0 : Int) < ((d.length + 1 : Nat) : Int) := by omega
  generalize (⟨(45 :: d).toArray⟩ : ByteArray) = sb at *
  go_enter Tryz.func127, Tryz.ntmps127
  go_wp2
  go_loop [6, 7] (fun n i => ∃ k : Nat, k ≤ d.length ∧ k ≤ 19 ∧ i = .int .i64 k ∧ n = .int .u64 (valD (d.take k) : Nat) ∧ Hid (AllD (d.take k))) (fun _ i => 19 - (intOf i).toNat)
  case atStart => exact ⟨0, Nat.zero_le _, by omega, rfl, rfl, Lib.hid (fun c hc => by simp at hc)⟩
  case round =>
    obtain ⟨k, hk, hk19, rfl, rfl, HD⟩ := hrel
    by_cases hlt : k < d.length ∧ k < 19
    · obtain ⟨hkd, hk18⟩ := hlt
      have hkl : (k : Int) < (d.length : Int) := by omega
      have hk8 : (k : Int) < 19 := by omega
      have hsz := size_str d
      have hgs : k < (⟨d.toArray⟩ : ByteArray).size := by omega
      have hge := get_str d k hgs hkd
      have hv := valD_bound HD.out hk (by omega)
      have HV := Lib.hid (valD_take hkd)
      have HA := Lib.hid (allD_take hkd HD.out)
      have hu8 : d[k].toNat < 256 := d[k].toNat_lt
      have HC := Lib.hid (List.getElem_mem hkd)
      generalize valD (d.take k) = v at *
      generalize d[k] = c at *
      by_cases h1 : 48 ≤ c.toNat
      · by_cases h2 : c.toNat ≤ 57
        · have f1 : ¬ (c.toNat : Int) < 48 := by omega
          have f2 : ¬ 57 < (c.toNat : Int) := by omega
          clear HC
          go_wp2
          go_round
          case rel => exact ⟨k + 1, by omega, by omega, by go_num, by rw [HV.out]; go_num, Lib.hid (HA.out ⟨h1, h2⟩)⟩
          case measure => simp [intOf]; omega
        · have f1 : ¬ (c.toNat : Int) < 48 := by omega
          have f2 : 57 < (c.toNat : Int) := by omega
          exact absurd (HALL.out c HC.out) (by omega)
      · have f1 : (c.toNat : Int) < 48 := by omega
        exact absurd (HALL.out c HC.out) (by omega)
    · have hkk : d.take k = d.take 19 ∧ ((k = d.length ∧ ¬ (k : Int) < (d.length : Int)) ∨ (k < d.length ∧ (k : Int) < (d.length : Int) ∧ k = 19)) := by
        rcases Nat.lt_or_ge k d.length with h | h
        · obtain rfl : k = 19 := by omega
          exact ⟨rfl, .inr ⟨h, by omega, rfl⟩⟩
        · have : k = d.length := by omega
          subst this
          exact ⟨by rw [List.take_length, List.take_of_length_le (by omega)], .inl ⟨rfl, by omega⟩⟩
      obtain ⟨hkt, hkor⟩ := hkk
      have hv := valD_bound19 HD.out hk hk19
      rw [hkt] at hv HD ⊢
      clear hkt
      have hsz := size_str d
      obtain ⟨x, hx, hx0, hx1, hxa, hxb⟩ := wrap_val hv
      obtain ⟨y, hy, hy0, hy1, hya, hyb⟩ := wrap_neg hx0 hx1
      have hyn : y = n := by
        have h3 := HN.out
        omega
      have HT := Lib.hid (Told_any n h0 (by omega) w)
      rw [HI.out] at HT
      subst hyn
      clear hya hyb hxa hxb hv
      rcases hkor with ⟨hk1, hk2⟩ | ⟨hk1, hk2, rfl⟩
      · go_wp2_with (go_at_call 149; refine HT.out.mono ?_; rintro r w1 ⟨rfl, rfl⟩)
        go_ret2
        exact ⟨rfl, rfl⟩
      · exact absurd hk1 (by omega)

set_option maxHeartbeats 2000000 in
set_option maxRecDepth 100000 in
theorem refnumber_pos (d : List UInt8) (w : World) (hl : d.length ≤ 1000) (n : Int) (hn : ¬ n < 0) (h1 : n ≤ 9223372036854775807) (hi : Lib.itoa n = d) :
    Calls Tryz.prog 127 #[.string ⟨d.toArray⟩] w fun r w' => r = .returned (.tuple #[.int .i64 n, .bool true]) ∧ w' = w := by
  have hd : d = Lib.decDigits n.toNat := by rw [← hi, itoa_pos hn]
  have hall : AllD d := by rw [hd]; exact dec_digits _
  have hd1 : 0 < d.length := List.length_pos_iff.2 (by rw [hd]; exact dec_ne _)
  have hne : ¬ d[0] = 45 := fun e => by have := hall d[0] (List.getElem_mem _); rw [e] at this; simp at this
  have HALL := Lib.hid hall
  have hd19 : d.length ≤ 19 := by rw [hd, Lib.decDigits_length]; exact nDigits_le19 _ (by omega)
  have HN : Hid (valD (d.take 19) = n.toNat) := Lib.hid (by rw [List.take_of_length_le hd19, hd, valD_dec])
  have HI := Lib.hid hi
  clear hd hi hall
  have hs0 := size_str d
  have hsp : (0 : Int) < (d.length : Int) := by omega
  have hg0 := get_str d 0 (by omega) (by omega)
  have hst : (d == (⟨d.toArray⟩ : ByteArray).toList) = true := by rw [ByteArray.toList_eq]; simp
  generalize d[0] = x0 at *
  have hx0 : ((x0.toNat : Int) == 45) = false := beq_eq_false_iff_ne.2 (fun e => hne (UInt8.toNat_inj.1 (show x0.toNat = 45 by omega)))
  clear hne
  go_enter Tryz.func127, Tryz.ntmps127
  go_wp2
  go_loop [6, 7] (fun n i => ∃ k : Nat, k ≤ d.length ∧ k ≤ 19 ∧ i = .int .i64 k ∧ n = .int .u64 (valD (d.take k) : Nat) ∧ Hid (AllD (d.take k))) (fun _ i => 19 - (intOf i).toNat)
  case atStart => exact ⟨0, Nat.zero_le _, by omega, rfl, rfl, Lib.hid (fun c hc => by simp at hc)⟩
  case round =>
    obtain ⟨k, hk, hk19, rfl, rfl, HD⟩ := hrel
    by_cases hlt : k < d.length ∧ k < 19
    · obtain ⟨hkd, hk18⟩ := hlt
      have hkl : (k : Int) < (d.length : Int) := by omega
      have hk8 : (k : Int) < 19 := by omega
      have hsz := size_str d
      have hgs : k < (⟨d.toArray⟩ : ByteArray).size := by omega
      have hge := get_str d k hgs hkd
      have hv := valD_bound HD.out hk (by omega)
      have HV := Lib.hid (valD_take hkd)
      have HA := Lib.hid (allD_take hkd HD.out)
      have hu8 : d[k].toNat < 256 := d[k].toNat_lt
      have HC := Lib.hid (List.getElem_mem hkd)
      generalize valD (d.take k) = v at *
      generalize d[k] = c at *
      by_cases h1 : 48 ≤ c.toNat
      · by_cases h2 : c.toNat ≤ 57
        · have f1 : ¬ (c.toNat : Int) < 48 := by omega
          have f2 : ¬ 57 < (c.toNat : Int) := by omega
          clear HC
          go_wp2
          go_round
          case rel => exact ⟨k + 1, by omega, by omega, by go_num, by rw [HV.out]; go_num, Lib.hid (HA.out ⟨h1, h2⟩)⟩
          case measure => simp [intOf]; omega
        · have f1 : ¬ (c.toNat : Int) < 48 := by omega
          have f2 : 57 < (c.toNat : Int) := by omega
          exact absurd (HALL.out c HC.out) (by omega)
      · have f1 : (c.toNat : Int) < 48 := by omega
        exact absurd (HALL.out c HC.out) (by omega)
    · have hkk : d.take k = d.take 19 ∧ ((k = d.length ∧ ¬ (k : Int) < (d.length : Int)) ∨ (k < d.length ∧ (k : Int) < (d.length : Int) ∧ k = 19)) := by
        rcases Nat.lt_or_ge k d.length with h | h
        · obtain rfl : k = 19 := by omega
          exact ⟨rfl, .inr ⟨h, by omega, rfl⟩⟩
        · have : k = d.length := by omega
          subst this
          exact ⟨by rw [List.take_length, List.take_of_length_le (by omega)], .inl ⟨rfl, by omega⟩⟩
      obtain ⟨hkt, hkor⟩ := hkk
      have hv := valD_bound19 HD.out hk hk19
      rw [hkt] at hv HD ⊢
      clear hkt
      have hsz := size_str d
      obtain ⟨x, hx, hxl, hxh, hxa, hxb⟩ := wrap_val hv
      have hyn : x = n := by
        have h3 := HN.out
        omega
      have HT := Lib.hid (Told_any n (by omega) h1 w)
      rw [HI.out] at HT
      subst hyn
      clear hxa hxb hv
      rcases hkor with ⟨hk1, hk2⟩ | ⟨hk1, hk2, rfl⟩
      · go_wp2_with (go_at_call 149; refine HT.out.mono ?_; rintro r w1 ⟨rfl, rfl⟩)
        go_ret2
        exact ⟨rfl, rfl⟩
      · exact absurd hk1 (by omega)

set_option maxHeartbeats 2000000 in
set_option maxRecDepth 100000 in
theorem refnumber_none_neg (d : List UInt8) (w : World) (hl : d.length ≤ 1000) (hno : ∀ n : Int, -9223372036854775808 ≤ n → n ≤ 9223372036854775807 → Lib.itoa n ≠ 45 :: d) :
    Calls Tryz.prog 127 #[.string ⟨(45 :: d).toArray⟩] w fun r w' => (∃ x : Int, r = .returned (.tuple #[.int .i64 x, .bool false])) ∧ w' = w := by
  have hs0 := size_str (45 :: d)
  have hg0 : (⟨(45 :: d).toArray⟩ : ByteArray)[0]'(by rw [hs0]; simp) = 45 := rfl
  have hex := extract_one 45 d
  rw [hs0, List.length_cons] at hex
  have HST : Hid ((⟨(45 :: d).toArray⟩ : ByteArray).toList = 45 :: d) := Lib.hid (by rw [ByteArray.toList_eq])
  simp only [List.length_cons] at hs0
  have hsp : (0 : Int) < ((d.length + 1 : Nat) : Int) := by omega
  generalize (⟨(45 :: d).toArray⟩ : ByteArray) = sb at *
  go_enter Tryz.func127, Tryz.ntmps127
  go_wp2
  go_loop [6, 7] (fun n i => ∃ k : Nat, k ≤ d.length ∧ k ≤ 19 ∧ i = .int .i64 k ∧ n = .int .u64 (valD (d.take k) : Nat) ∧ Hid (AllD (d.take k))) (fun _ i => 19 - (intOf i).toNat)
  case atStart => exact ⟨0, Nat.zero_le _, by omega, rfl, rfl, Lib.hid (fun c hc => by simp at hc)⟩
  case round =>
    obtain ⟨k, hk, hk19, rfl, rfl, HD⟩ := hrel
    by_cases hlt : k < d.length ∧ k < 19
    · obtain ⟨hkd, hk18⟩ := hlt
      have hkl : (k : Int) < (d.length : Int) := by omega
      have hk8 : (k : Int) < 19 := by omega
      have hsz := size_str d
      have hgs : k < (⟨d.toArray⟩ : ByteArray).size := by omega
      have hge := get_str d k hgs hkd
      have hv := valD_bound HD.out hk (by omega)
      have HV := Lib.hid (valD_take hkd)
      have HA := Lib.hid (allD_take hkd HD.out)
      have hu8 : d[k].toNat < 256 := d[k].toNat_lt
      have HC := Lib.hid (List.getElem_mem hkd)
      generalize valD (d.take k) = v at *
      generalize d[k] = c at *
      by_cases h1 : 48 ≤ c.toNat
      · by_cases h2 : c.toNat ≤ 57
        · have f1 : ¬ (c.toNat : Int) < 48 := by omega
          have f2 : ¬ 57 < (c.toNat : Int) := by omega
          clear HC
          go_wp2
          go_round
          case rel => exact ⟨k + 1, by omega, by omega, by go_num, by rw [HV.out]; go_num, Lib.hid (HA.out ⟨h1, h2⟩)⟩
          case measure => simp [intOf]; omega
        · have f1 : ¬ (c.toNat : Int) < 48 := by omega
          have f2 : 57 < (c.toNat : Int) := by omega
          go_wp2
          go_ret2
          exact ⟨⟨0, rfl⟩, rfl⟩
      · have f1 : (c.toNat : Int) < 48 := by omega
        go_wp2
        go_ret2
        exact ⟨⟨0, rfl⟩, rfl⟩
    · have hkk : d.take k = d.take 19 ∧ ((k = d.length ∧ ¬ (k : Int) < (d.length : Int)) ∨ (k < d.length ∧ (k : Int) < (d.length : Int) ∧ k = 19)) := by
        rcases Nat.lt_or_ge k d.length with h | h
        · obtain rfl : k = 19 := by omega
          exact ⟨rfl, .inr ⟨h, by omega, rfl⟩⟩
        · have : k = d.length := by omega
          subst this
          exact ⟨by rw [List.take_length, List.take_of_length_le (by omega)], .inl ⟨rfl, by omega⟩⟩
      obtain ⟨hkt, hkor⟩ := hkk
      have hv := valD_bound19 HD.out hk hk19
      rw [hkt] at hv HD ⊢
      clear hkt
      have hsz := size_str d
      obtain ⟨x, hx, hx0, hx1, hxa, hxb⟩ := wrap_val hv
      obtain ⟨y, hy, hy0, hy1, hya, hyb⟩ := wrap_neg hx0 hx1
      have HT := Lib.hid (Told_any y hy0 hy1 w)
      have hst : (Lib.itoa y == sb.toList) = false := by
        rw [HST.out, beq_eq_false_iff_ne]
        exact hno y hy0 hy1
      clear hya hyb hxa hxb hv hno
      generalize Lib.itoa y = T at *
      rcases hkor with ⟨hk1, hk2⟩ | ⟨hk1, hk2, rfl⟩
      · go_wp2_with (go_at_call 149; refine HT.out.mono ?_; rintro r w1 ⟨rfl, rfl⟩)
        go_ret2
        exact ⟨⟨y, rfl⟩, rfl⟩
      · go_wp2_with (go_at_call 149; refine HT.out.mono ?_; rintro r w1 ⟨rfl, rfl⟩)
        go_ret2
        exact ⟨⟨y, rfl⟩, rfl⟩

set_option maxHeartbeats 2000000 in
set_option maxRecDepth 100000 in
theorem refnumber_none_other (d : List UInt8) (w : World) (hl : d.length ≤ 1000) (hd1 : 0 < d.length) (hne : ¬ d[0] = 45) (hno : ∀ n : Int, -9223372036854775808 ≤ n → n ≤ 9223372036854775807 → Lib.itoa n ≠ d) :
    Calls Tryz.prog 127 #[.string ⟨d.toArray⟩] w fun r w' => (∃ x : Int, r = .returned (.tuple #[.int .i64 x, .bool false])) ∧ w' = w := by
  have hs0 := size_str d
  have hsp : (0 : Int) < (d.length : Int) := by omega
  have hg0 := get_str d 0 (by omega) (by omega)
  generalize d[0] = x0 at *
  have hx0 : ((x0.toNat : Int) == 45) = false := beq_eq_false_iff_ne.2 (fun e => hne (UInt8.toNat_inj.1 (show x0.toNat = 45 by omega)))
  clear hne
  go_enter Tryz.func127, Tryz.ntmps127
  go_wp2
  go_loop [6, 7] (fun n i => ∃ k : Nat, k ≤ d.length ∧ k ≤ 19 ∧ i = .int .i64 k ∧ n = .int .u64 (valD (d.take k) : Nat) ∧ Hid (AllD (d.take k))) (fun _ i => 19 - (intOf i).toNat)
  case atStart => exact ⟨0, Nat.zero_le _, by omega, rfl, rfl, Lib.hid (fun c hc => by simp at hc)⟩
  case round =>
    obtain ⟨k, hk, hk19, rfl, rfl, HD⟩ := hrel
    by_cases hlt : k < d.length ∧ k < 19
    · obtain ⟨hkd, hk18⟩ := hlt
      have hkl : (k : Int) < (d.length : Int) := by omega
      have hk8 : (k : Int) < 19 := by omega
      have hsz := size_str d
      have hgs : k < (⟨d.toArray⟩ : ByteArray).size := by omega
      have hge := get_str d k hgs hkd
      have hv := valD_bound HD.out hk (by omega)
      have HV := Lib.hid (valD_take hkd)
      have HA := Lib.hid (allD_take hkd HD.out)
      have hu8 : d[k].toNat < 256 := d[k].toNat_lt
      have HC := Lib.hid (List.getElem_mem hkd)
      generalize valD (d.take k) = v at *
      generalize d[k] = c at *
      by_cases h1 : 48 ≤ c.toNat
      · by_cases h2 : c.toNat ≤ 57
        · have f1 : ¬ (c.toNat : Int) < 48 := by omega
          have f2 : ¬ 57 < (c.toNat : Int) := by omega
          clear HC
          go_wp2
          go_round
          case rel => exact ⟨k + 1, by omega, by omega, by go_num, by rw [HV.out]; go_num, Lib.hid (HA.out ⟨h1, h2⟩)⟩
          case measure => simp [intOf]; omega
        · have f1 : ¬ (c.toNat : Int) < 48 := by omega
          have f2 : 57 < (c.toNat : Int) := by omega
          go_wp2
          go_ret2
          exact ⟨⟨0, rfl⟩, rfl⟩
      · have f1 : (c.toNat : Int) < 48 := by omega
        go_wp2
        go_ret2
        exact ⟨⟨0, rfl⟩, rfl⟩
    · have hkk : d.take k = d.take 19 ∧ ((k = d.length ∧ ¬ (k : Int) < (d.length : Int)) ∨ (k < d.length ∧ (k : Int) < (d.length : Int) ∧ k = 19)) := by
        rcases Nat.lt_or_ge k d.length with h | h
        · obtain rfl : k = 19 := by omega
          exact ⟨rfl, .inr ⟨h, by omega, rfl⟩⟩
        · have : k = d.length := by omega
          subst this
          exact ⟨by rw [List.take_length, List.take_of_length_le (by omega)], .inl ⟨rfl, by omega⟩⟩
      obtain ⟨hkt, hkor⟩ := hkk
      have hv := valD_bound19 HD.out hk hk19
      rw [hkt] at hv HD ⊢
      clear hkt
      have hsz := size_str d
      obtain ⟨x, hx, hxl, hxh, hxa, hxb⟩ := wrap_val hv
      have HT := Lib.hid (Told_any x hxl hxh w)
      have hst : (Lib.itoa x == d) = false := by
        rw [beq_eq_false_iff_ne]
        exact hno x hxl hxh
      clear hxa hxb hv hno
      generalize Lib.itoa x = T at *
      rcases hkor with ⟨hk1, hk2⟩ | ⟨hk1, hk2, rfl⟩
      · go_wp2_with (go_at_call 149; refine HT.out.mono ?_; rintro r w1 ⟨rfl, rfl⟩)
        go_ret2
        exact ⟨⟨x, rfl⟩, rfl⟩
      · go_wp2_with (go_at_call 149; refine HT.out.mono ?_; rintro r w1 ⟨rfl, rfl⟩)
        go_ret2
        exact ⟨⟨x, rfl⟩, rfl⟩

set_option maxHeartbeats 2000000 in
set_option maxRecDepth 100000 in
theorem refnumber_none_nil (w : World) : Calls Tryz.prog 127 #[.string ⟨([] : List UInt8).toArray⟩] w fun r w' => (∃ x : Int, r = .returned (.tuple #[.int .i64 x, .bool false])) ∧ w' = w := by
  have HT := Lib.hid (Told_any 0 (by omega) (by omega) w)
  have e0 : Lib.itoa 0 = [48] := by decide +kernel
  rw [e0] at HT
  have hs0 : (⟨([] : List UInt8).toArray⟩ : ByteArray).size = 0 := rfl
  go_enter Tryz.func127, Tryz.ntmps127
  go_wp2
  go_loop [6, 7] (fun n i => n = .int .u64 0 ∧ i = .int .i64 0) (fun _ _ => 0)
  case atStart => exact ⟨rfl, rfl⟩
  case round =>
    obtain ⟨rfl, rfl⟩ := hrel
    go_wp2_with (go_at_call 149; refine HT.out.mono ?_; rintro r w1 ⟨rfl, rfl⟩)
    go_ret2
    exact ⟨⟨0, rfl⟩, rfl⟩

theorem refnumber_some (l : List UInt8) (n : Int) (w : World) (hl : l.length ≤ 1000) (h : numOf l = some n) :
    Calls Tryz.prog 127 #[.string ⟨l.toArray⟩] w fun r w' => r = .returned (.tuple #[.int .i64 n, .bool true]) ∧ w' = w := by
  obtain ⟨h0, h1⟩ := numOf_range h
  have hi := (numOf_some h).2
  by_cases hn : n < 0
  · have hd := itoa_neg hn
    rw [hi] at hd
    subst hd
    exact refnumber_neg _ w (by simp at hl; omega) n h0 hn hi
  · exact refnumber_pos l w hl n hn h1 hi

theorem refnumber_none (l : List UInt8) (w : World) (hl : l.length ≤ 1000) (h : numOf l = none) :
    Calls Tryz.prog 127 #[.string ⟨l.toArray⟩] w fun r w' => (∃ x : Int, r = .returned (.tuple #[.int .i64 x, .bool false])) ∧ w' = w := by
  have hno : ∀ n : Int, -9223372036854775808 ≤ n → n ≤ 9223372036854775807 → Lib.itoa n ≠ l := fun n h0 h1 e => by
    rw [← e, numOf_itoa n h0 h1] at h
    cases h
  cases l with
  | nil => exact refnumber_none_nil w
  | cons x d =>
    by_cases hx : x = 45
    · subst hx
      exact refnumber_none_neg d w (by simp at hl; omega) hno
    · exact refnumber_none_other (x :: d) w hl (by simp) hx hno

end Go.Proofs.YtcngifkoopcmeaaGreatDoor
