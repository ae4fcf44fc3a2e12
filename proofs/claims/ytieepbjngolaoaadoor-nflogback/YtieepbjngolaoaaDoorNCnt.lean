/-
  What Counts of package group does (as at a seat of group, without what reads labels).
-/
import Derived.Test.YtieepbjngolaoaaDoorFull
import Derived.Deep.RegionHeld3
namespace Go.Proofs.YtieepbjngolaoaaDoor
open Go.RowKit

theorem rdText_left {l r s : List UInt8} {e most : Int} (h : rdText most l = (r, e, s)) (he : e ≠ 0) : r = [] := by
  cases l with
  | nil => simp [rdText] at h; exact h.1
  | cons x l =>
    simp only [rdText] at h
    split at h
    · simp at h; exact h.1
    · split at h
      · split at h <;> (simp at h; exact h.1)
      · split at h
        · simp at h; exact h.1
        · split at h
          · simp at h; exact h.1
          · split at h
            · simp at h; exact h.1
            · split at h
              · simp at h; exact h.1
              · simp only [Prod.mk.injEq] at h; exact absurd h.2.1.symm he
theorem bytes_of_string (w : World) (s : ByteArray) : ∃ a c w', (convert 9 48 (.string s)).run Tryd.prog w = .ok (.slice (some a) s.size c) w' ∧ SrcAt w' (.slice (some a) s.size c) s.data.toList ∧ Below w.heap.size w w' := by
  refine ⟨⟨w.heap.size, 0, none⟩, _, _, Lib.run_convert_string_bytes w 9 48 5 s Tryd.underlying9 Tryd.underlying48 Tryd.underlying5, .inr ⟨_, _, rfl, fun i hi => ?_⟩, Lib.bytesWorld_below _ _ _⟩
  rw [Go.WideShapes.add_plain, Nat.zero_add, Lib.bytesWorld_cell w 5 s i (by show i < s.data.size; simpa using hi)]
  rw [List.getD_eq_getElem?_getD, List.getElem?_eq_getElem hi]
  rfl

theorem SrcAt.len {w : World} {a : Option Addr} {n c : Nat} {l : List UInt8} (h : SrcAt w (.slice a n c) l) : n = l.length := src_len h

theorem bytes_of_string2 (w : World) (s : ByteArray) : ∃ a c w', (convert 9 48 (.string s)).run Tryd.prog w = .ok (.slice (some a) s.size c) w' ∧ SrcAt w' (.slice (some a) s.size c) s.data.toList ∧ s.size ≤ c ∧ a.block < w'.heap.size ∧ Below w.heap.size w w' := by
  refine ⟨⟨w.heap.size, 0, none⟩, _, _, Lib.run_convert_string_bytes w 9 48 5 s Tryd.underlying9 Tryd.underlying48 Tryd.underlying5, .inr ⟨_, _, rfl, fun i hi => ?_⟩, grownCap_ge _ _ _ _, by rw [Lib.bytesWorld_size]; exact Nat.lt_succ_self _, Lib.bytesWorld_below _ _ _⟩
  rw [Go.WideShapes.add_plain, Nat.zero_add, Lib.bytesWorld_cell w 5 s i (by show i < s.data.size; simpa using hi)]
  rw [List.getD_eq_getElem?_getD, List.getElem?_eq_getElem hi]
  rfl
theorem moreB_pos {l : List UInt8} (h : moreB l = true) : 0 < l.length := by
  cases l with
  | nil => cases h
  | cons x l => simp

theorem rdText_less {l r s : List UInt8} {e most : Int} (h : rdText most l = (r, e, s)) (hl : 0 < l.length) : r.length < l.length := by
  by_cases he : e = 0
  · subst he
    rw [rdText_laid h]
    simp [putText]
    omega
  · rw [rdText_left h he]
    exact hl

/-- The counts of what is left, with an error or without. -/
def cnt (most : Int) : Nat → List UInt8 → Int → Int → Int → Int × Int
  | 0, _, _, _, _ => (0, 0)
  | f + 1, l, e, a, b => if moreB l = true then
      (if (intE (textE most e l).2.1 (textE most e l).1).2.1 ≠ 0 ∨ ((intE (textE most e l).2.1 (textE most e l).1).2.2 ≠ 0 ∧ (intE (textE most e l).2.1 (textE most e l).1).2.2 ≠ 1) then (0, 0) else
        if (intE (textE most e l).2.1 (textE most e l).1).2.2 = 1 then cnt most f (intE (textE most e l).2.1 (textE most e l).1).1 (intE (textE most e l).2.1 (textE most e l).1).2.1 (a + 1) b
        else cnt most f (intE (textE most e l).2.1 (textE most e l).1).1 (intE (textE most e l).2.1 (textE most e l).1).2.1 a (b + 1))
    else if (byteE 101 e l).2 ≠ 0 ∨ 0 < (byteE 101 e l).1.length then (0, 0) else (a, b)
def countsP (s : List UInt8) : Int × Int := cnt s.length (s.length + 1) (byteE 108 0 s).1 (byteE 108 0 s).2 0 0

theorem cnt_err (most : Int) {e : Int} (he : e ≠ 0) (f : Nat) (a b : Int) : cnt most f [] e a b = (0, 0) := by
  cases f with
  | zero => rfl
  | succ f =>
    rw [cnt, if_neg (by simp [moreB]), if_pos]
    left
    unfold byteE
    rw [if_neg he]
    exact he
theorem byteE_le (ch : UInt8) (e : Int) (l : List UInt8) : (byteE ch e l).1.length ≤ l.length := by
  obtain ⟨l1, e1, h⟩ : ∃ l1 e1, byteE ch e l = (l1, e1) := ⟨_, _, rfl⟩
  rw [h]
  exact (byteE_err h).2
/-- What one round leaves to be counted. -/
structure CntTo (most : Int) (l : List UInt8) (e a b : Int) (R : Int × Int) : Prop where
  is : ∃ f, l.length < f ∧ cnt most f l e a b = R
theorem CntTo.round {most : Int} {l l1 l2 s1 : List UInt8} {e e1 e2 n a b : Int} {R : Int × Int} (h : CntTo most l e a b R) (hm : moreB l = true) (hT : textE most e l = (l1, e1, s1)) (hI : intE e1 l1 = (l2, e2, n)) (hlt : l2.length < l.length) :
    (n = 0 → CntTo most l2 e2 a (b + 1) R) ∧ (n = 1 → CntTo most l2 e2 (a + 1) b R) ∧ (n ≠ 0 → n ≠ 1 → R = (0, 0)) ∧ (e2 ≠ 0 → R = (0, 0)) := by
  obtain ⟨f, hf, hR⟩ := h.is
  cases f with
  | zero => omega
  | succ f =>
    rw [cnt, if_pos hm] at hR
    simp only [hT, hI] at hR
    have hz : e2 ≠ 0 → R = (0, 0) := fun he => by rw [← hR, if_pos (.inl he)]
    have hl2 : e2 ≠ 0 → l2 = [] := (intE_err hI).1
    refine ⟨fun hn => ?_, fun hn => ?_, fun h0 h1 => by rw [← hR, if_pos (.inr ⟨h0, h1⟩)], hz⟩
    · by_cases he : e2 = 0
      · rw [if_neg (by omega), if_neg (by omega)] at hR
        exact ⟨f, by omega, hR⟩
      · rw [hl2 he, hz he]
        exact ⟨1, by simp, cnt_err most he 1 a (b + 1)⟩
    · by_cases he : e2 = 0
      · rw [if_neg (by omega), if_pos hn] at hR
        exact ⟨f, by omega, hR⟩
      · rw [hl2 he, hz he]
        exact ⟨1, by simp, cnt_err most he 1 (a + 1) b⟩
theorem CntTo.out {most : Int} {l l3 : List UInt8} {e e3 a b : Int} {R : Int × Int} (h : CntTo most l e a b R) (hm : moreB l = false) (hB : byteE 101 e l = (l3, e3)) : (e3 ≠ 0 → R = (0, 0)) ∧ (e3 = 0 → 0 < l3.length → R = (0, 0)) ∧ (e3 = 0 → l3.length = 0 → R = (a, b)) := by
  obtain ⟨f, hf, hR⟩ := h.is
  cases f with
  | zero => omega
  | succ f =>
    rw [cnt, if_neg (by rw [hm]; simp)] at hR
    simp only [hB] at hR
    exact ⟨fun he => by rw [← hR, if_pos (.inl he)], fun _ hl => by rw [← hR, if_pos (.inr hl)], fun he hl => by rw [← hR, if_neg (by omega)]⟩
theorem textI_less {most : Int} {l l1 l2 s1 : List UInt8} {e e1 e2 n : Int} (hm : moreB l = true) (hT : textE most e l = (l1, e1, s1)) (hI : intE e1 l1 = (l2, e2, n)) : l2.length < l.length := by
  have hp := moreB_pos hm
  have h2 := (intE_err hI).2
  have h1 : l1.length < l.length := by
    by_cases he : e = 0
    · subst he
      exact rdText_less (most := most) (show rdText most l = (l1, e1, s1) from hT) hp
    · simp only [textE, if_neg he, Prod.mk.injEq] at hT
      rw [← hT.1]
      simpa using hp
  omega

set_option maxHeartbeats 4000000 in
set_option maxRecDepth 100000 in
theorem gCounts_any (s : ByteArray) (B : Nat) (w : World) (hs : s.size ≤ 1099511627776) (hB : B ≤ w.heap.size) (hv : VarsOk B w) :
    Calls Tryd.prog 8 #[.string s] w fun e w' => e = .returned (.tuple #[.int .i64 (countsP s.data.toList).1, .int .i64 (countsP s.data.toList).2]) ∧ Below w.heap.size w w' := by
  obtain ⟨a1, c1, w1, hcv, hsrc, hb1⟩ := bytes_of_string w s
  have hs1 := hb1.size
  have hkl : s.data.toList.length = s.size := rfl
  have HN := Lib.hid (New_any _ s.data.toList w1 hsrc (by omega))
  obtain ⟨R, hR⟩ : ∃ R, R = countsP s.data.toList := ⟨_, rfl⟩
  rw [← hR]
  have hst : CntTo s.size (byteE 108 0 s.data.toList).1 (byteE 108 0 s.data.toList).2 0 0 R := ⟨s.data.toList.length + 1, by
    have := byteE_le 108 0 s.data.toList
    omega, by rw [hR]; rfl⟩
  have hl3 := byteE_le 108 0 s.data.toList
  have HST := Lib.hid hst
  have HKL := Lib.hid hkl
  clear hkl hsrc hst hR
  generalize s.data.toList = key at *
  obtain ⟨l3, e3, hO⟩ : ∃ l3 e3, byteE 108 0 key = (l3, e3) := ⟨_, _, rfl⟩
  rw [hO] at HST hl3
  have HO := Lib.hid hO
  clear hO
  have hl3' : l3.length ≤ s.size := by rw [← HKL.out]; exact hl3
  clear hl3
  go_enter Tryd.func8, Tryd.ntmps8
  go_wp2_with (go_at_call 17; refine HN.out.mono ?_; rintro e w2 ⟨rb, a2, c2, rfl, hrd2, hrb, -, hb2⟩; refine Hid.out ?_)
  refine Lib.hid ?_
  have hs2 := hb2.size
  have hn2 := hb1.trans (hb2.mono hs1)
  have hrl := hrd2.blk.lt
  go_wp2_with (go_at_call 18; refine (Open_full rb a2 c2 key 0 _ hrd2 HO.out).mono ?_; rintro e w3 ⟨rfl, ⟨a3, c3, hrd3⟩, hg3⟩; refine Hid.out ?_)
  refine Lib.hid ?_
  have hs3 := hg3.size
  have hn3 : Below w.heap.size w w3 := hn2.trans (below_of_grownBy hg3 (by omega) (by omega))
  clear hrd2 hg3 hb2 HN hcv hb1
  go_wp2
  go_loopw [2, 3] (fun v2 v3 wr => ∃ (a b : Nat) (l : List UInt8) (e : Int) (ar : Option Addr) (cr : Nat), v2 = .int .i64 a ∧ v3 = .int .i64 b ∧ Rd wr rb ar cr l e ∧ Hid (CntTo s.size l e a b R) ∧ Below w.heap.size w wr ∧ w3.heap.size ≤ wr.heap.size ∧ a + b + l.length ≤ s.size) (fun _ _ wr => leftN rb wr)
  case atStart => exact ⟨0, 0, l3, e3, a3, c3, rfl, rfl, hrd3, HST, hn3, Nat.le_refl _, by omega⟩
  case round =>
    obtain ⟨a, b, l, e, ar, cr, rfl, rfl, hrd, HC, hnx, hsz, hab⟩ := hrel
    have hvr := hv.on (hnx.mono hB)
    have HL := Lib.hid hrd.leftN
    have HMo := Lib.hid (More_any rb ar cr l e wr hrd)
    by_cases hm : moreB l = true
    · obtain ⟨l1, e1, s1, hT⟩ : ∃ l1 e1 s1, textE s.size e l = (l1, e1, s1) := ⟨_, _, _, rfl⟩
      obtain ⟨l2, e2, n, hI⟩ : ∃ l2 e2 n, intE e1 l1 = (l2, e2, n) := ⟨_, _, _, rfl⟩
      have hlt := textI_less hm hT hI
      have HR := Lib.hid (HC.out.round hm hT hI hlt)
      have HT := Lib.hid (rText_full rb ar cr l e s.size B wr hrd (by omega) hvr hT)
      have HI := Lib.hid hI
      rw [hm] at HMo
      clear hm hT hI HC
      go_wp2_with (go_at_call 19; refine HMo.out.mono ?_; rintro e w4 ⟨rfl, rfl⟩; refine Hid.out ?_)
      refine Lib.hid ?_
      go_wp2_with (go_at_call 20; refine HT.out.mono ?_; rintro e w5 ⟨rfl, ⟨ar5, cr5, hrd5⟩, hg5⟩; refine Hid.out ?_)
      refine Lib.hid ?_
      have hb5 : Below w.heap.size w4 w5 := below_of_grownBy hg5 (by omega) (by omega)
      have hn5 := hnx.trans hb5
      have hs5 := hg5.size
      have HI5 := Lib.hid (rInt_full rb ar5 cr5 l1 e1 B w5 hrd5 (by omega) (hv.on (hn5.mono hB)) HI.out)
      clear hrd5 hg5 hb5 HT HMo hrd
      go_wp2_with (go_at_call 21; refine HI5.out.mono ?_; rintro e w6 ⟨rfl, ⟨ar6, cr6, hrd6⟩, hg6⟩; refine Hid.out ?_)
      refine Lib.hid ?_
      have hb6 : Below w.heap.size w5 w6 := below_of_grownBy hg6 (by omega) (by omega)
      have hn6 := hn5.trans hb6
      have hs6 := hg6.size
      clear hg6 hb6 HI5 HI hvr hnx hn5
      by_cases h0 : n = 0
      · subst h0
        have HN0 := Lib.hid (HR.out.1 rfl)
        clear HR
        go_wp2
        go_roundw
        case rel => exact ⟨a, b + 1, l2, e2, ar6, cr6, rfl, by go_num, hrd6, Lib.hid (by have := HN0.out; simpa using this), hn6, by omega, by omega⟩
        case measure => rw [hrd6.leftN, HL.out]; exact hlt
      · by_cases h1 : n = 1
        · subst h1
          have HN1 := Lib.hid (HR.out.2.1 rfl)
          clear HR h0
          go_wp2
          go_roundw
          case rel => exact ⟨a + 1, b, l2, e2, ar6, cr6, by go_num, rfl, hrd6, Lib.hid (by have := HN1.out; simpa using this), hn6, by omega, by omega⟩
          case measure => rw [hrd6.leftN, HL.out]; exact hlt
        · have hz0 : (n == 0) = false := by rw [beq_eq_false_iff_ne]; exact h0
          have hz1 : (n == 1) = false := by rw [beq_eq_false_iff_ne]; exact h1
          have HRR := Lib.hid (HR.out.2.2.1 h0 h1)
          have HN6 := Lib.hid hn6
          clear HR h0 h1 hrd6 hn6
          go_wp2
          go_ret2
          exact ⟨by rw [HRR.out]; rfl, HN6.out⟩
    · have hm' : moreB l = false := by simpa using hm
      rw [hm'] at HMo
      obtain ⟨l4, e4, hB4⟩ : ∃ l4 e4, byteE 101 e l = (l4, e4) := ⟨_, _, rfl⟩
      have HR := Lib.hid (HC.out.out hm' hB4)
      have HCl := Lib.hid (Close_full rb ar cr l e wr hrd hB4)
      clear hm hm' hB4 HC hrd
      go_wp2_with (go_at_call 19; refine HMo.out.mono ?_; rintro e w4 ⟨rfl, rfl⟩; refine Hid.out ?_)
      refine Lib.hid ?_
      go_wp2_with (go_at_call 22; refine HCl.out.mono ?_; rintro e w5 ⟨rfl, ⟨ar5, cr5, hrd5⟩, hg5⟩; refine Hid.out ?_)
      refine Lib.hid ?_
      have HN5 := Lib.hid (hnx.trans (below_of_grownBy hg5 (B := w.heap.size) (by omega) (by omega)))
      have HE := Lib.hid (Err_any rb ar5 cr5 l4 e4 w5 hrd5)
      have HLf := Lib.hid (Left_any rb ar5 cr5 l4 e4 w5 hrd5)
      clear hg5 hrd5 HMo HCl hnx hvr HL
      by_cases h4 : e4 = 0
      · subst h4
        by_cases hl4 : 0 < l4.length
        · have hl4z : (0 : Int) < (l4.length : Int) := by omega
          have HRR := Lib.hid (HR.out.2.1 rfl hl4)
          clear HR
          go_wp2_with (first
            | (go_at_call 23; refine HE.out.mono ?_; rintro e w6 ⟨rfl, rfl⟩)
            | (go_at_call 24; refine HLf.out.mono ?_; rintro e w6 ⟨rfl, rfl⟩))
          go_ret2
          exact ⟨by rw [HRR.out]; rfl, HN5.out⟩
        · have hl4z : ¬ (0 : Int) < (l4.length : Int) := by omega
          have HRR := Lib.hid (HR.out.2.2 rfl (by omega))
          clear HR
          go_wp2_with (first
            | (go_at_call 23; refine HE.out.mono ?_; rintro e w6 ⟨rfl, rfl⟩)
            | (go_at_call 24; refine HLf.out.mono ?_; rintro e w6 ⟨rfl, rfl⟩))
          go_ret2
          exact ⟨by rw [HRR.out]; rfl, HN5.out⟩
      · have hz4 : (e4 != 0) = true := by simpa using h4
        have HRR := Lib.hid (HR.out.1 h4)
        clear HR h4
        go_wp2_with (first
          | (go_at_call 23; refine HE.out.mono ?_; rintro e w6 ⟨rfl, rfl⟩)
          | (go_at_call 24; refine HLf.out.mono ?_; rintro e w6 ⟨rfl, rfl⟩))
        go_ret2
        exact ⟨by rw [HRR.out]; rfl, HN5.out⟩

end Go.Proofs.YtieepbjngolaoaaDoor
