/-
  Read of a key: of pairs that may be, of others. The walk of LabelBack.
-/
import Derived.Test.YtpjmfembpckohaaDoorLRead
import Derived.Test.YtpjmfembpckohaaDoorLAwake
namespace Go.Proofs.YtpjmfembpckohaaDoor
open Go.RowKit

theorem VarsOk.up {B B' : Nat} {w : World} (h : VarsOk B w) (hB : B ≤ B') : VarsOk B' w := fun w' hb => h w' (hb.mono hB)

theorem Read_yes (s : ByteArray) (w : World) (hs : s.size ≤ 1099511627776) (hv : VarsOk w.heap.size w) (ps : List Pr) (hc : checkE ps = 0) (hk : s.data.toList = keyL ps) :
    Calls Tryd.prog 21 #[.string s] w fun e w' => ∃ a c, e = .returned (.tuple #[.slice a ps.length c, .int .i64 0]) ∧ OwnP w' w.heap.size (.slice a ps.length c) ps ∧ Below w.heap.size w w' := by
  refine (Read_any s w hs hv).mono ?_
  rintro e w' ⟨⟨a, c, qs, he, ho, hq, hk2⟩ | ⟨-, hno⟩, hb⟩
  · obtain rfl : qs = ps := keyL_inj (check_fits hq) (check_fits hc) (hk2.symm.trans hk)
    exact ⟨a, c, he, ho, hb⟩
  · exact absurd hk (hno ps hc)

theorem Read_no (s : ByteArray) (w : World) (hs : s.size ≤ 1099511627776) (hv : VarsOk w.heap.size w) (hno : ∀ qs, checkE qs = 0 → s.data.toList ≠ keyL qs) :
    Calls Tryd.prog 21 #[.string s] w fun e w' => e = .returned (.tuple #[.slice none 0 0, .int .i64 4]) ∧ Below w.heap.size w w' := by
  refine (Read_any s w hs hv).mono ?_
  rintro e w' ⟨⟨a, c, qs, he, ho, hq, hk2⟩ | ⟨he, -⟩, hb⟩
  · exact absurd hk2 (hno qs hq)
  · exact ⟨he, hb⟩

theorem keyL_len (ps : List Pr) : (keyL ps).length = (partsK ps).flatten.length + 2 := by
  rw [keyL_tail]; simp [tailK]
theorem check_len {ps : List Pr} (h : checkE ps = 0) : ps.length ≤ 8 := by
  unfold checkE at h
  split at h
  · rename_i hne; exact absurd h hne
  · rename_i hne; exact partsE_zero (Classical.not_not.1 hne)
theorem flat_le : ∀ (ps : List Pr), (∀ p ∈ ps, p.1.size ≤ 64 ∧ p.2.size ≤ 64) → (partsK ps).flatten.length ≤ ps.length * 172
  | [], _ => by simp [partsK]
  | p :: ps, h => by
    have ih := flat_le ps fun x hx => h x (List.mem_cons_of_mem _ hx)
    have hp := h p (List.mem_cons_self ..)
    have h1 := putText_len' p.1.data.toList (show p.1.size ≤ _ by omega)
    have h2 := putText_len' p.2.data.toList (show p.2.size ≤ _ by omega)
    have e1 : p.1.data.toList.length = p.1.size := rfl
    have e2 : p.2.data.toList.length = p.2.size := rfl
    have e : (partsK (p :: ps)).flatten = putText p.1.data.toList ++ (putText p.2.data.toList ++ (partsK ps).flatten) := by simp [partsK]
    rw [e]
    simp only [List.length_append, List.length_cons]
    omega

/-- Key of pairs that may be. -/
theorem Key_ok (a : Option Addr) (c : Nat) (ps : List Pr) (B : Nat) (w : World) (h : PairsAt w a ps) (hc : checkE ps = 0) (hB : B ≤ w.heap.size) (hv : TabOk B w) (n : Nat) (hn : n = ps.length) :
    Calls Tryd.prog 22 #[.slice a n c] w fun e w' => e = .returned (.string ⟨(keyL ps).toArray⟩) ∧ Below w.heap.size w w' := by
  have h8 := check_len hc
  have hf := check_fit hc
  have hl := flat_le ps fun p hp => by have := hf p hp; omega
  exact Key_any a c ps B w h (by omega) (fun p hp => by have := hf p hp; omega) (by omega) hB hv n hn

theorem str_bytes {s : ByteArray} {l : List UInt8} (h : s.data.toList = l) : (⟨l.toArray⟩ : ByteArray) = s := by
  subst h
  rfl

set_option maxHeartbeats 4000000 in
set_option maxRecDepth 100000 in
theorem back_ok_yes (a : Option Addr) (c : Nat) (ps : List Pr) (s : ByteArray) (w : World) (h : PairsAt w a ps) (hl : ps.length ≤ 1048576) (hsz : ∀ p ∈ ps, p.1.size ≤ 1048576 ∧ p.2.size ≤ 1048576) (hf : (partsK ps).flatten.length ≤ 100000000) (hs : s.size ≤ 1048576)
    (hv : VarsOk w.heap.size w) (hck : checkE ps = 0) (qs : List Pr) (hqc : checkE qs = 0) (hqk : s.data.toList = keyL qs) :
    Calls Tryd.prog 6 #[.slice a ps.length c, .string s] w fun e w' => e = .returned (.bool true) ∧ Below w.heap.size w w' := by
  have HK := Lib.hid (Key_any a c ps w.heap.size w h hl hsz (by omega) (Nat.le_refl _) hv.tabOk ps.length rfl)
  have hkl := keyL_len ps
  have hks : (⟨(keyL ps).toArray⟩ : ByteArray).size ≤ 1099511627776 := by show (keyL ps).toArray.size ≤ _; simp; omega
  have HCk := Lib.hid (fun w1 (hb : Below w.heap.size w w1) => Check_any a c ps w1 (h.below hb (Nat.le_refl _)))
  have HR := Lib.hid (fun w1 (hb : Below w.heap.size w w1) => Read_yes ⟨(keyL ps).toArray⟩ w1 hks ((hv.on hb).up hb.size) ps hck (by simp))
  have HSm := Lib.hid (fun w1 (hb : Below w.heap.size w w1) a2 c2 (h2 : PairsAt w1 a2 ps) => Same_any a a2 c c2 ps ps w1 (h.below hb (Nat.le_refl _)) h2 (by omega) ps.length ps.length rfl rfl)
  simp only [decide_true] at HSm
  rw [hck] at HCk
  clear h hsz hkl hks hf hck
  generalize keyL ps = K at *
  go_enter Tryd.func6, Tryd.ntmps6
  go_wp2_with (go_at_call 22; refine HK.out.mono ?_; rintro e w1 ⟨rfl, hb1⟩; refine Hid.out ?_)
  refine Lib.hid ?_
  have hs1 := hb1.size
  go_wp2_with (go_at_call 21; refine (HR.out w1 hb1).mono ?_; rintro e w2 ⟨a2, c2, rfl, ho2, hb2⟩; refine Hid.out ?_)
  refine Lib.hid ?_
  have hn2 := hb1.trans (hb2.mono hs1)
  have hs2 := hn2.size
  obtain ⟨_, _, hq2, hat2, -, -⟩ := ho2.form
  injection hq2 with q1 q2 q3
  subst q1 q3
  clear ho2 q2
  go_wp2_with (go_at_call 10; refine (HCk.out w2 hn2).mono ?_; rintro e w3 ⟨rfl, hb3⟩; refine Hid.out ?_)
  refine Lib.hid ?_
  have hn3 := hn2.trans (hb3.mono hs2)
  have hs3 := hn3.size
  go_wp2_with (go_at_call 15; refine (HSm.out w3 hn3 a2 c2 (hat2.below hb3 (Nat.le_refl _))).mono ?_; rintro e w4 ⟨rfl, hb4⟩; refine Hid.out ?_)
  refine Lib.hid ?_
  have hn4 := hn3.trans (hb4.mono hs3)
  have hs4 := hn4.size
  go_wp2_with (go_at_call 10; refine (HCk.out w4 hn4).mono ?_; rintro e w5 ⟨rfl, hb5⟩; refine Hid.out ?_)
  refine Lib.hid ?_
  have hn5 := hn4.trans (hb5.mono hs4)
  have hs5 := hn5.size
  have HR2 := Lib.hid (Read_yes s w5 (by omega) ((hv.on hn5).up hs5) qs hqc hqk)
  have HC2 := Lib.hid hqc
  have HQ := Lib.hid hqk
  clear hqc hqk
  go_wp2_with (go_at_call 21; refine HR2.out.mono ?_; rintro e w6 ⟨a6, c6, rfl, ho6, hb6⟩; refine Hid.out ?_)
  refine Lib.hid ?_
  have hn6 := hn5.trans (hb6.mono hs5)
  have hs6 := hn6.size
  obtain ⟨_, _, hq6, hat6, -, -⟩ := ho6.form
  injection hq6 with q1 q2 q3
  subst q1 q3
  clear ho6 q2
  have HK2 := Lib.hid (Key_ok a6 c6 qs w.heap.size w6 hat6 HC2.out hs6 (hv.on hn6).tabOk qs.length rfl)
  have HCq := Lib.hid (fun w1 (hb : Below w6.heap.size w6 w1) => Check_any a6 c6 qs w1 (hat6.below hb (Nat.le_refl _)))
  rw [HC2.out] at HCq
  rw [str_bytes HQ.out] at HK2
  go_wp2_with (go_at_call 22; refine HK2.out.mono ?_; rintro e w7 ⟨rfl, hb7⟩; refine Hid.out ?_)
  refine Lib.hid ?_
  have hn7 := hn6.trans (hb7.mono hs6)
  have hs7 := hn7.size
  go_wp2_with (go_at_call 10; refine (HCq.out w7 hb7).mono ?_; rintro e w8 ⟨rfl, hb8⟩; refine Hid.out ?_)
  refine Lib.hid ?_
  have hn8 := hn7.trans (hb8.mono hs7)
  have hs8 := hn8.size
  go_wp2_with (go_at_call 12; refine (awake_any w.heap.size _ hs8 (hv.on hn8).tabOk).mono ?_; rintro e wA ⟨rfl, hbA⟩; refine Hid.out ?_)
  refine Lib.hid ?_
  go_wp2
  go_ret
  exact ⟨rfl, hn8.trans (hbA.mono hs8)⟩

set_option maxHeartbeats 4000000 in
set_option maxRecDepth 100000 in
theorem back_ok_no (a : Option Addr) (c : Nat) (ps : List Pr) (s : ByteArray) (w : World) (h : PairsAt w a ps) (hl : ps.length ≤ 1048576) (hsz : ∀ p ∈ ps, p.1.size ≤ 1048576 ∧ p.2.size ≤ 1048576) (hf : (partsK ps).flatten.length ≤ 100000000) (hs : s.size ≤ 1048576)
    (hv : VarsOk w.heap.size w) (hck : checkE ps = 0) (hqn : ∀ qs, checkE qs = 0 → s.data.toList ≠ keyL qs) :
    Calls Tryd.prog 6 #[.slice a ps.length c, .string s] w fun e w' => e = .returned (.bool true) ∧ Below w.heap.size w w' := by
  have HK := Lib.hid (Key_any a c ps w.heap.size w h hl hsz (by omega) (Nat.le_refl _) hv.tabOk ps.length rfl)
  have hkl := keyL_len ps
  have hks : (⟨(keyL ps).toArray⟩ : ByteArray).size ≤ 1099511627776 := by show (keyL ps).toArray.size ≤ _; simp; omega
  have HCk := Lib.hid (fun w1 (hb : Below w.heap.size w w1) => Check_any a c ps w1 (h.below hb (Nat.le_refl _)))
  have HR := Lib.hid (fun w1 (hb : Below w.heap.size w w1) => Read_yes ⟨(keyL ps).toArray⟩ w1 hks ((hv.on hb).up hb.size) ps hck (by simp))
  have HSm := Lib.hid (fun w1 (hb : Below w.heap.size w w1) a2 c2 (h2 : PairsAt w1 a2 ps) => Same_any a a2 c c2 ps ps w1 (h.below hb (Nat.le_refl _)) h2 (by omega) ps.length ps.length rfl rfl)
  simp only [decide_true] at HSm
  rw [hck] at HCk
  clear h hsz hkl hks hf hck
  generalize keyL ps = K at *
  go_enter Tryd.func6, Tryd.ntmps6
  go_wp2_with (go_at_call 22; refine HK.out.mono ?_; rintro e w1 ⟨rfl, hb1⟩; refine Hid.out ?_)
  refine Lib.hid ?_
  have hs1 := hb1.size
  go_wp2_with (go_at_call 21; refine (HR.out w1 hb1).mono ?_; rintro e w2 ⟨a2, c2, rfl, ho2, hb2⟩; refine Hid.out ?_)
  refine Lib.hid ?_
  have hn2 := hb1.trans (hb2.mono hs1)
  have hs2 := hn2.size
  obtain ⟨_, _, hq2, hat2, -, -⟩ := ho2.form
  injection hq2 with q1 q2 q3
  subst q1 q3
  clear ho2 q2
  go_wp2_with (go_at_call 10; refine (HCk.out w2 hn2).mono ?_; rintro e w3 ⟨rfl, hb3⟩; refine Hid.out ?_)
  refine Lib.hid ?_
  have hn3 := hn2.trans (hb3.mono hs2)
  have hs3 := hn3.size
  go_wp2_with (go_at_call 15; refine (HSm.out w3 hn3 a2 c2 (hat2.below hb3 (Nat.le_refl _))).mono ?_; rintro e w4 ⟨rfl, hb4⟩; refine Hid.out ?_)
  refine Lib.hid ?_
  have hn4 := hn3.trans (hb4.mono hs3)
  have hs4 := hn4.size
  go_wp2_with (go_at_call 10; refine (HCk.out w4 hn4).mono ?_; rintro e w5 ⟨rfl, hb5⟩; refine Hid.out ?_)
  refine Lib.hid ?_
  have hn5 := hn4.trans (hb5.mono hs4)
  have hs5 := hn5.size
  have HR2 := Lib.hid (Read_no s w5 (by omega) ((hv.on hn5).up hs5) hqn)
  clear hqn
  go_wp2_with (go_at_call 21; refine HR2.out.mono ?_; rintro e w6 ⟨rfl, hb6⟩; refine Hid.out ?_)
  refine Lib.hid ?_
  have hn8 := hn5.trans (hb6.mono hs5)
  have hs8 := hn8.size
  go_wp2_with (go_at_call 12; refine (awake_any w.heap.size _ hs8 (hv.on hn8).tabOk).mono ?_; rintro e wA ⟨rfl, hbA⟩; refine Hid.out ?_)
  refine Lib.hid ?_
  go_wp2
  go_ret
  exact ⟨rfl, hn8.trans (hbA.mono hs8)⟩

set_option maxHeartbeats 4000000 in
set_option maxRecDepth 100000 in
theorem back_bad_yes (a : Option Addr) (c : Nat) (ps : List Pr) (s : ByteArray) (w : World) (h : PairsAt w a ps) (hl : ps.length ≤ 1048576) (hsz : ∀ p ∈ ps, p.1.size ≤ 1048576 ∧ p.2.size ≤ 1048576) (hf : (partsK ps).flatten.length ≤ 100000000) (hs : s.size ≤ 1048576)
    (hv : VarsOk w.heap.size w) (hck : checkE ps ≠ 0) (qs : List Pr) (hqc : checkE qs = 0) (hqk : s.data.toList = keyL qs) :
    Calls Tryd.prog 6 #[.slice a ps.length c, .string s] w fun e w' => e = .returned (.bool true) ∧ Below w.heap.size w w' := by
  have HK := Lib.hid (Key_any a c ps w.heap.size w h hl hsz (by omega) (Nat.le_refl _) hv.tabOk ps.length rfl)
  have hkl := keyL_len ps
  have hks : (⟨(keyL ps).toArray⟩ : ByteArray).size ≤ 1099511627776 := by show (keyL ps).toArray.size ≤ _; simp; omega
  have HCk := Lib.hid (fun w1 (hb : Below w.heap.size w w1) => Check_any a c ps w1 (h.below hb (Nat.le_refl _)))
  have HR := Lib.hid (fun w1 (hb : Below w.heap.size w w1) => Read_no ⟨(keyL ps).toArray⟩ w1 hks ((hv.on hb).up hb.size) (fun qs hq hk => hck (by
    have hk2 : keyL ps = keyL qs := by simpa using hk
    rw [keyL_inj (fun p hp => by have := hsz p hp; omega) (check_fits hq) hk2]
    exact hq)))
  have hck1 : (checkE ps == 0) = false := by simpa using hck
  have hck2 : (checkE ps != 0) = true := by simpa using hck
  generalize checkE ps = E at *
  clear h hsz hkl hks hf hck
  generalize keyL ps = K at *
  go_enter Tryd.func6, Tryd.ntmps6
  go_wp2_with (go_at_call 22; refine HK.out.mono ?_; rintro e w1 ⟨rfl, hb1⟩; refine Hid.out ?_)
  refine Lib.hid ?_
  have hs1 := hb1.size
  go_wp2_with (go_at_call 21; refine (HR.out w1 hb1).mono ?_; rintro e w2 ⟨rfl, hb2⟩; refine Hid.out ?_)
  refine Lib.hid ?_
  have hn2 := hb1.trans (hb2.mono hs1)
  have hs2 := hn2.size
  go_wp2_with (go_at_call 10; refine (HCk.out w2 hn2).mono ?_; rintro e w3 ⟨rfl, hb3⟩; refine Hid.out ?_)
  refine Lib.hid ?_
  have hn3 := hn2.trans (hb3.mono hs2)
  have hs3 := hn3.size
  go_wp2_with (go_at_call 10; refine (HCk.out w3 hn3).mono ?_; rintro e w5 ⟨rfl, hb5⟩; refine Hid.out ?_)
  refine Lib.hid ?_
  have hn5 := hn3.trans (hb5.mono hs3)
  have hs5 := hn5.size
  have HR2 := Lib.hid (Read_yes s w5 (by omega) ((hv.on hn5).up hs5) qs hqc hqk)
  have HC2 := Lib.hid hqc
  have HQ := Lib.hid hqk
  clear hqc hqk
  go_wp2_with (go_at_call 21; refine HR2.out.mono ?_; rintro e w6 ⟨a6, c6, rfl, ho6, hb6⟩; refine Hid.out ?_)
  refine Lib.hid ?_
  have hn6 := hn5.trans (hb6.mono hs5)
  have hs6 := hn6.size
  obtain ⟨_, _, hq6, hat6, -, -⟩ := ho6.form
  injection hq6 with q1 q2 q3
  subst q1 q3
  clear ho6 q2
  have HK2 := Lib.hid (Key_ok a6 c6 qs w.heap.size w6 hat6 HC2.out hs6 (hv.on hn6).tabOk qs.length rfl)
  have HCq := Lib.hid (fun w1 (hb : Below w6.heap.size w6 w1) => Check_any a6 c6 qs w1 (hat6.below hb (Nat.le_refl _)))
  rw [HC2.out] at HCq
  rw [str_bytes HQ.out] at HK2
  go_wp2_with (go_at_call 22; refine HK2.out.mono ?_; rintro e w7 ⟨rfl, hb7⟩; refine Hid.out ?_)
  refine Lib.hid ?_
  have hn7 := hn6.trans (hb7.mono hs6)
  have hs7 := hn7.size
  go_wp2_with (go_at_call 10; refine (HCq.out w7 hb7).mono ?_; rintro e w8 ⟨rfl, hb8⟩; refine Hid.out ?_)
  refine Lib.hid ?_
  have hn8 := hn7.trans (hb8.mono hs7)
  have hs8 := hn8.size
  go_wp2_with (go_at_call 12; refine (awake_any w.heap.size _ hs8 (hv.on hn8).tabOk).mono ?_; rintro e wA ⟨rfl, hbA⟩; refine Hid.out ?_)
  refine Lib.hid ?_
  go_wp2
  go_ret
  exact ⟨rfl, hn8.trans (hbA.mono hs8)⟩

set_option maxHeartbeats 4000000 in
set_option maxRecDepth 100000 in
theorem back_bad_no (a : Option Addr) (c : Nat) (ps : List Pr) (s : ByteArray) (w : World) (h : PairsAt w a ps) (hl : ps.length ≤ 1048576) (hsz : ∀ p ∈ ps, p.1.size ≤ 1048576 ∧ p.2.size ≤ 1048576) (hf : (partsK ps).flatten.length ≤ 100000000) (hs : s.size ≤ 1048576)
    (hv : VarsOk w.heap.size w) (hck : checkE ps ≠ 0) (hqn : ∀ qs, checkE qs = 0 → s.data.toList ≠ keyL qs) :
    Calls Tryd.prog 6 #[.slice a ps.length c, .string s] w fun e w' => e = .returned (.bool true) ∧ Below w.heap.size w w' := by
  have HK := Lib.hid (Key_any a c ps w.heap.size w h hl hsz (by omega) (Nat.le_refl _) hv.tabOk ps.length rfl)
  have hkl := keyL_len ps
  have hks : (⟨(keyL ps).toArray⟩ : ByteArray).size ≤ 1099511627776 := by show (keyL ps).toArray.size ≤ _; simp; omega
  have HCk := Lib.hid (fun w1 (hb : Below w.heap.size w w1) => Check_any a c ps w1 (h.below hb (Nat.le_refl _)))
  have HR := Lib.hid (fun w1 (hb : Below w.heap.size w w1) => Read_no ⟨(keyL ps).toArray⟩ w1 hks ((hv.on hb).up hb.size) (fun qs hq hk => hck (by
    have hk2 : keyL ps = keyL qs := by simpa using hk
    rw [keyL_inj (fun p hp => by have := hsz p hp; omega) (check_fits hq) hk2]
    exact hq)))
  have hck1 : (checkE ps == 0) = false := by simpa using hck
  have hck2 : (checkE ps != 0) = true := by simpa using hck
  generalize checkE ps = E at *
  clear h hsz hkl hks hf hck
  generalize keyL ps = K at *
  go_enter Tryd.func6, Tryd.ntmps6
  go_wp2_with (go_at_call 22; refine HK.out.mono ?_; rintro e w1 ⟨rfl, hb1⟩; refine Hid.out ?_)
  refine Lib.hid ?_
  have hs1 := hb1.size
  go_wp2_with (go_at_call 21; refine (HR.out w1 hb1).mono ?_; rintro e w2 ⟨rfl, hb2⟩; refine Hid.out ?_)
  refine Lib.hid ?_
  have hn2 := hb1.trans (hb2.mono hs1)
  have hs2 := hn2.size
  go_wp2_with (go_at_call 10; refine (HCk.out w2 hn2).mono ?_; rintro e w3 ⟨rfl, hb3⟩; refine Hid.out ?_)
  refine Lib.hid ?_
  have hn3 := hn2.trans (hb3.mono hs2)
  have hs3 := hn3.size
  go_wp2_with (go_at_call 10; refine (HCk.out w3 hn3).mono ?_; rintro e w5 ⟨rfl, hb5⟩; refine Hid.out ?_)
  refine Lib.hid ?_
  have hn5 := hn3.trans (hb5.mono hs3)
  have hs5 := hn5.size
  have HR2 := Lib.hid (Read_no s w5 (by omega) ((hv.on hn5).up hs5) hqn)
  clear hqn
  go_wp2_with (go_at_call 21; refine HR2.out.mono ?_; rintro e w6 ⟨rfl, hb6⟩; refine Hid.out ?_)
  refine Lib.hid ?_
  have hn8 := hn5.trans (hb6.mono hs5)
  have hs8 := hn8.size
  go_wp2_with (go_at_call 12; refine (awake_any w.heap.size _ hs8 (hv.on hn8).tabOk).mono ?_; rintro e wA ⟨rfl, hbA⟩; refine Hid.out ?_)
  refine Lib.hid ?_
  go_wp2
  go_ret
  exact ⟨rfl, hn8.trans (hbA.mono hs8)⟩

theorem back_walk (a : Option Addr) (c : Nat) (ps : List Pr) (s : ByteArray) (w : World) (h : PairsAt w a ps) (hl : ps.length ≤ 1048576) (hsz : ∀ p ∈ ps, p.1.size ≤ 1048576 ∧ p.2.size ≤ 1048576) (hf : (partsK ps).flatten.length ≤ 100000000) (hs : s.size ≤ 1048576)
    (hv : VarsOk w.heap.size w) :
    Calls Tryd.prog 6 #[.slice a ps.length c, .string s] w fun e w' => e = .returned (.bool true) ∧ Below w.heap.size w w' := by
  by_cases hck : checkE ps = 0
  · by_cases hex : ∃ qs, checkE qs = 0 ∧ s.data.toList = keyL qs
    · obtain ⟨qs, h1, h2⟩ := hex
      exact back_ok_yes a c ps s w h hl hsz hf hs hv hck qs h1 h2
    · exact back_ok_no a c ps s w h hl hsz hf hs hv hck (fun qs h1 h2 => hex ⟨qs, h1, h2⟩)
  · by_cases hex : ∃ qs, checkE qs = 0 ∧ s.data.toList = keyL qs
    · obtain ⟨qs, h1, h2⟩ := hex
      exact back_bad_yes a c ps s w h hl hsz hf hs hv hck qs h1 h2
    · exact back_bad_no a c ps s w h hl hsz hf hs hv hck (fun qs h1 h2 => hex ⟨qs, h1, h2⟩)

end Go.Proofs.YtpjmfembpckohaaDoor
