/-
  GroupCounts, walked: a revision counts as many alerts as fire, and as many as do not.
-/
import Derived.Test.YtdnpfmmkglgnjaaDoorG6
namespace Go.Proofs.YtdnpfmmkglgnjaaDoor
open Go.RowKit

/-- How many fire. -/
def firesN (L : List Rw) (now : Int) : Nat := (L.filter fun r => firesP r.st r.en now).length
theorem firesN_perm {L M : List Rw} (h : L.Perm M) (now : Int) : firesN L now = firesN M now := (h.filter _).length_eq
theorem firesN_le (L : List Rw) (now : Int) : firesN L now ≤ L.length := List.length_filter_le _ _
theorem firesN_take (L : List Rw) (now : Int) (k : Nat) (hk : k < L.length) : firesN (L.take (k + 1)) now = firesN (L.take k) now + if firesP L[k].st L[k].en now then 1 else 0 := by
  unfold firesN
  rw [List.take_succ_eq_append_getElem hk, List.filter_append, List.length_append]
  congr 1
  cases h : firesP L[k].st L[k].en now <;> simp [h]
theorem itoa_first (n : Nat) : ∃ x r, Lib.itoa (n : Int) = x :: r ∧ 48 ≤ x.toNat ∧ x.toNat ≤ 57 := by
  have e : Lib.itoa (n : Int) = Lib.decDigits n := by
    unfold Lib.itoa
    rw [if_neg (by omega)]
    simp
  rw [e]
  cases h : Lib.decDigits n with
  | nil => exact absurd h (dec_ne n)
  | cons x r => exact ⟨x, r, rfl, dec_digits n x (by rw [h]; exact List.mem_cons_self ..)⟩
theorem more_text (s r : List UInt8) : moreB (putText s ++ r) = true := by
  obtain ⟨x, t, e, h1, h2⟩ := itoa_first s.length
  unfold putText
  rw [e]
  simp only [List.cons_append, moreB, bne_iff_ne, ne_eq]
  omega
theorem cnt_parts (most : Int) (now : Int) : ∀ (M : List Rw) (f : Nat) (a b : Int), (∀ r ∈ M, RwLight r ∧ (r.key.length : Int) ≤ most) → ((partsR M now).flatten ++ [101]).length < f → cnt most f ((partsR M now).flatten ++ [101]) 0 a b = (a + firesN M now, b + ((M.length : Int) - firesN M now))
  | [], f, a, b, _, hf => by
    cases f with
    | zero => simp at hf
    | succ f =>
      have e : (partsR ([] : List Rw) now).flatten ++ [101] = [101] := rfl
      rw [e, cnt, if_neg (by simp [moreB])]
      have e2 : byteE 101 0 [101] = ([], 0) := by simp [byteE, rdByte]
      rw [e2, if_neg (by simp)]
      simp [firesN]
  | r :: M, f, a, b, hM, hf => by
    obtain ⟨hr, hk⟩ := hM r (List.mem_cons_self ..)
    have e : (partsR (r :: M) now).flatten ++ [101] = putText r.key ++ (putInt (fireN r now) ++ ((partsR M now).flatten ++ [101])) := by
      have : partsR (r :: M) now = [putText r.key, putInt (fireN r now)] ++ partsR M now := rfl
      rw [this, List.flatten_append]
      simp
    rw [e] at hf ⊢
    cases f with
    | zero => simp at hf
    | succ f =>
      have h01 := fireN_01 r now
      have hT : textE most 0 (putText r.key ++ (putInt (fireN r now) ++ ((partsR M now).flatten ++ [101]))) = (putInt (fireN r now) ++ ((partsR M now).flatten ++ [101]), 0, r.key) := by
        have := hr.key_le
        unfold textE
        rw [if_pos rfl]
        exact read_putText r.key (by omega) most hk _
      have hI : intE 0 (putInt (fireN r now) ++ ((partsR M now).flatten ++ [101])) = ((partsR M now).flatten ++ [101], 0, fireN r now) := by
        unfold intE
        rw [if_pos rfl]
        exact read_putInt _ (by omega) (by omega) _
      rw [cnt, if_pos (more_text _ _)]
      simp only [hT, hI]
      have hf2 : ((partsR M now).flatten ++ [101]).length < f := by
        rw [List.length_append, List.length_append] at hf
        have : 1 ≤ (putInt (fireN r now)).length := by simp [putInt]
        omega
      have hM2 : ∀ x ∈ M, RwLight x ∧ (x.key.length : Int) ≤ most := fun x hx => hM x (List.mem_cons_of_mem _ hx)
      rw [if_neg (by omega)]
      have hlen : firesN (r :: M) now = (if firesP r.st r.en now then 1 else 0) + firesN M now := by
        unfold firesN
        cases h : firesP r.st r.en now <;> simp [h]
        omega
      have hle := firesN_le M now
      by_cases hq : firesP r.st r.en now = true
      · have hn : fireN r now = 1 := by unfold fireN; rw [if_pos hq]
        rw [if_pos hn, cnt_parts most now M f (a + 1) b hM2 hf2, hlen, if_pos hq, List.length_cons]
        simp only [Prod.mk.injEq]
        omega
      · have hn : fireN r now = 0 := by unfold fireN; rw [if_neg hq]
        rw [if_neg (by omega), cnt_parts most now M f a (b + 1) hM2 hf2, hlen, if_neg hq, List.length_cons]
        simp only [Prod.mk.injEq]
        omega
theorem counts_rev (L : List Rw) (now : Int) (hL : ∀ r ∈ L, RwLight r) : countsP (revL L now) = ((firesN L now : Int), (L.length : Int) - firesN L now) := by
  by_cases h0 : L.length = 0
  · obtain rfl := List.eq_nil_of_length_eq_zero h0
    have e : revL [] now = [] := rfl
    rw [e]
    have e2 : countsP [] = (0, 0) := by decide +kernel
    rw [e2]
    rfl
  · have e : revL L now = 108 :: ((partsR (sortR L) now).flatten ++ [101]) := by unfold revL; rw [if_neg h0]; rfl
    rw [e]
    unfold countsP
    have e2 : byteE 108 0 (108 :: ((partsR (sortR L) now).flatten ++ [101])) = ((partsR (sortR L) now).flatten ++ [101], 0) := by simp [byteE, rdByte]
    rw [e2]
    have hm : ∀ r ∈ sortR L, RwLight r ∧ (r.key.length : Int) ≤ ((108 :: ((partsR (sortR L) now).flatten ++ [101])).length : Int) := fun r hr => ⟨hL r ((sortR_perm L).mem_iff.1 hr), by
      have h1 : (putText r.key) ∈ partsR (sortR L) now := List.mem_flatMap.2 ⟨r, hr, by simp⟩
      have h2 := (List.sublist_flatten_of_mem h1).length_le
      have h3 : r.key.length ≤ (putText r.key).length := by simp [putText]; omega
      simp only [List.length_cons, List.length_append, List.length_nil]
      omega⟩
    rw [cnt_parts _ now (sortR L) _ 0 0 hm (by simp)]
    rw [firesN_perm (sortR_perm L) now, sortR_len]
    simp
theorem rev_len (L : List Rw) (now : Int) (hL : ∀ r ∈ L, RwLight r) (hn : L.length ≤ 40) : (revL L now).length ≤ 100002 := by
  unfold revL
  split
  · simp
  · have := flatR_le now (sortR L) fun r hr => hL r ((sortR_perm L).mem_iff.1 hr)
    rw [sortR_len] at this
    simp only [putList, List.length_append, List.length_cons, List.length_nil]
    omega
theorem rev_empty (L : List Rw) (now : Int) : ((⟨(revL L now).toArray⟩ : ByteArray).toList == (⟨#[]⟩ : ByteArray).toList) = decide (L.length = 0) := by
  rw [str_beq]
  by_cases h0 : L.length = 0
  · have e : revL L now = [] := by unfold revL; rw [if_pos h0]
    rw [e, decide_eq_true h0]
    rfl
  · have e : revL L now = 108 :: ((partsR (sortR L) now).flatten ++ [101]) := by unfold revL; rw [if_neg h0]; rfl
    rw [e, decide_eq_false h0]
    refine decide_eq_false fun h => ?_
    have := congrArg (fun b : ByteArray => b.data.size) h
    simp at this

set_option maxHeartbeats 4000000 in
set_option maxRecDepth 100000 in
theorem counts_walk (a : Option Addr) (c : Nat) (L : List Rw) (now : Int) (w : World) (hv : VarsOk w.heap.size w) (h : AlsAt w a L) (hl : L.length ≤ 9223372036854775807) (hz : ∀ r ∈ L, r.ps.length ≤ 9223372036854775807 ∧ ∀ p ∈ r.ps, p.1.size ≤ 9223372036854775807 ∧ p.2.size ≤ 9223372036854775807) :
    Calls Tryd.prog 5 #[.slice a L.length c, .int .i64 now] w fun e w' => e = .returned (.bool true) ∧ Below w.heap.size w w' := by
  have HLi := Lib.hid (hLight_any a c L 40 w h hl hz _ rfl)
  cases hli : lightB L 40 with
  | false =>
    rw [hli] at HLi
    have HA := Lib.hid (gawake_any w.heap.size w (Nat.le_refl _) hv)
    clear h hz
    go_enter Tryd.func5, Tryd.ntmps5
    go_wp2_with (first
      | (go_at_call 10; refine HLi.out.mono ?_; rintro e w1 ⟨rfl, rfl⟩)
      | (go_at_call 9; refine HA.out.mono ?_; rintro e w2 ⟨rfl, hb2⟩; refine Hid.out ?_))
    refine Lib.hid ?_
    have HB := Lib.hid hb2
    clear hb2
    go_wp2
    go_ret
    exact ⟨rfl, HB.out⟩
  | true =>
    obtain ⟨h40, hL⟩ := lightB_yes hli
    rw [hli] at HLi
    have h40' : L.length ≤ 40 := by omega
    have HR := Lib.hid (gRevision_any a c L now w.heap.size w h h40' hL (Nat.le_refl _) hv _ rfl)
    have HCR := Lib.hid (counts_rev L now hL)
    have HRL := Lib.hid (rev_len L now hL h40')
    have HRE := Lib.hid (rev_empty L now)
    have HAt := Lib.hid h
    have hfl := firesN_le L now
    clear h hz hL h40 hli
    go_enter Tryd.func5, Tryd.ntmps5
    go_wp2_with (first
      | (go_at_call 10; refine HLi.out.mono ?_; rintro e w1 ⟨rfl, rfl⟩)
      | (go_at_call 13; refine HR.out.mono ?_; rintro e w2 ⟨rfl, hb2⟩; refine Hid.out ?_))
    refine Lib.hid ?_
    have hs2 := hb2.size
    have hkl : (⟨(revL L now).toArray⟩ : ByteArray).size = (revL L now).length := by
      show (revL L now).toArray.size = _
      simp
    have HCt := gCounts_any ⟨(revL L now).toArray⟩ w1.heap.size w2 (by rw [hkl]; have := HRL.out; omega) hs2 (hv.on hb2)
    have ek : (⟨(revL L now).toArray⟩ : ByteArray).data.toList = revL L now := rfl
    rw [ek, HCR.out] at HCt
    have HCq := Lib.hid HCt
    have HRq := Lib.hid HRE.out
    clear HCt HR HLi hkl ek HRE HCR HRL
    generalize (⟨(revL L now).toArray⟩ : ByteArray) = sr at *
    go_wp2_with (go_at_call 11; refine HCq.out.mono ?_; rintro e w3 ⟨rfl, hb3⟩; refine Hid.out ?_)
    refine Lib.hid ?_
    have d3 := hb2.trans (hb3.mono hs2)
    clear HCq hb2 hb3 hs2
    go_wp2
    go_loopw [8, 9] (fun v8 v9 wr => ∃ (m k : Nat), k ≤ L.length ∧ v8 = .int .i64 m ∧ v9 = .int .i64 k ∧ m ≤ k ∧ Hid (m = firesN (L.take k) now) ∧ Hid (Below w1.heap.size w1 wr)) (fun _ i _ => L.length - (intOf i).toNat)
    case atStart => exact ⟨0, 0, Nat.zero_le _, rfl, rfl, Nat.le_refl _, Lib.hid (by simp [firesN]), Lib.hid d3⟩
    case round =>
      clear d3
      obtain ⟨m, k, hk, rfl, rfl, hmk, HM, HB⟩ := hrel
      by_cases hlt : k < L.length
      · have hkl : (k : Int) < (L.length : Int) := by omega
        have hat := HAt.out.below HB.out (Nat.le_refl _)
        obtain ⟨b, o, rfl, hbl, hc⟩ := hat (by omega)
        obtain ⟨hc1, hc2, hc3, -⟩ := hc k hlt
        have HF := Lib.hid (aFires_any L[k].ad L[k].ps.length L[k].cp L[k].st L[k].en now wr)
        have HT := Lib.hid (firesN_take L now k hlt)
        have hsw := HB.out.size
        clear hc hat
        generalize L[k] = r0 at *
        cases hq : firesP r0.st r0.en now with
        | true =>
          rw [hq] at HF HT
          go_wp2_with (go_at_call 15; refine HF.out.mono ?_; rintro e w4 ⟨rfl, hb4⟩; refine Hid.out ?_)
          refine Lib.hid ?_
          have HB4 := Lib.hid (HB.out.trans (hb4.mono hsw))
          have HM4 : Hid (m + 1 = firesN (L.take (k + 1)) now) := Lib.hid (by rw [HT.out, ← HM.out]; rfl)
          clear hb4 hc1 hc2 hc3 HF HT HB HM
          go_wp2
          go_roundw
          case rel => exact ⟨m + 1, k + 1, by omega, by go_num, by go_num, by omega, HM4, HB4⟩
          case measure => simp [intOf]; omega
        | false =>
          rw [hq] at HF HT
          go_wp2_with (go_at_call 15; refine HF.out.mono ?_; rintro e w4 ⟨rfl, hb4⟩; refine Hid.out ?_)
          refine Lib.hid ?_
          have HB4 := Lib.hid (HB.out.trans (hb4.mono hsw))
          have HM4 : Hid (m = firesN (L.take (k + 1)) now) := Lib.hid (by rw [HT.out, ← HM.out]; rfl)
          clear hb4 hc1 hc2 hc3 HF HT HB HM
          go_wp2
          go_roundw
          case rel => exact ⟨m, k + 1, by omega, rfl, by go_num, by omega, HM4, HB4⟩
          case measure => simp [intOf]; omega
      · obtain rfl : k = L.length := by omega
        have hm : m = firesN L now := by have := HM.out; rwa [List.take_length] at this
        have hb := HB.out
        have hsb := hb.size
        have HA := Lib.hid (gawake_any w1.heap.size wr hsb (hv.on hb))
        have HBq := Lib.hid (And.intro hb hsb)
        have hrq := HRq.out
        clear HM HB HAt hb hsb HRq
        rw [← hm] at *
        clear hm
        by_cases h0 : L.length = 0
        · have h0z : ((L.length : Int) == 0) = true := by rw [h0]; rfl
          have hrt : (sr.toList == (⟨#[]⟩ : ByteArray).toList) = true := by rw [hrq, decide_eq_true h0]
          have hr0 : sr = ⟨#[]⟩ := by rw [str_beq] at hrt; exact of_decide_eq_true hrt
          clear hrq h0 hrt
          subst hr0
          go_wp2_with (go_at_call 9; refine HA.out.mono ?_; rintro e w5 ⟨rfl, hb5⟩; refine Hid.out ?_)
          refine Lib.hid ?_
          have HB5 := Lib.hid (HBq.out.1.trans (hb5.mono HBq.out.2))
          clear hb5 HA HBq
          go_wp2
          go_ret
          exact ⟨rfl, HB5.out⟩
        · have h0z : ((L.length : Int) == 0) = false := by rw [beq_eq_false_iff_ne]; omega
          have hrt : (sr.toList == (⟨#[]⟩ : ByteArray).toList) = false := by rw [hrq, decide_eq_false h0]
          have hr0 : ¬ sr = ⟨#[]⟩ := by rw [str_beq] at hrt; exact of_decide_eq_false hrt
          have hr1 : ¬ sr.toList = [] := fun e => hr0 (by
            have : sr.data.toList = [] := by rw [← ByteArray.toList_eq]; exact e
            apply ByteArray.ext
            simpa using this)
          have hr2 : (sr.toList == []) = false := by rw [beq_eq_false_iff_ne]; exact hr1
          have hr3 : sr.toList.isEmpty = false := by simpa using hr1
          clear hrq h0
          go_wp2_with (go_at_call 9; refine HA.out.mono ?_; rintro e w5 ⟨rfl, hb5⟩; refine Hid.out ?_)
          refine Lib.hid ?_
          have HB5 := Lib.hid (HBq.out.1.trans (hb5.mono HBq.out.2))
          clear hb5 HA HBq
          go_wp2
          go_ret
          exact ⟨rfl, HB5.out⟩

end Go.Proofs.YtdnpfmmkglgnjaaDoor
