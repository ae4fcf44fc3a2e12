/-
  The reference's store: place, Put, Drop, Firing, Get.
-/
import Derived.Test.YtdnpfmmkglgnjabDoorA7
namespace Go.Proofs.YtdnpfmmkglgnjabDoor
open Go.RowKit

theorem less_yes {x y : List UInt8} (h : x < y) : Op.bytesLess x y = true := by rw [less_eq]; exact decide_eq_true h
theorem less_no {x y : List UInt8} (h : ¬ x < y) : Op.bytesLess x y = false := by rw [less_eq]; exact decide_eq_false h
theorem eqb_dec (x y : List UInt8) : (x == y) = decide (x = y) := by
  rw [Bool.eq_iff_iff]
  simp

/-- Where a key stands, or would. -/
def placeN (S : List Rw) (k : List UInt8) : Nat := (S.takeWhile fun r => decide (r.key < k)).length
theorem place_le (S : List Rw) (k : List UInt8) : placeN S k ≤ S.length := (List.takeWhile_prefix _).length_le
theorem take_place (S : List Rw) (k : List UInt8) : S.take (placeN S k) = S.takeWhile fun r => decide (r.key < k) := by
  exact (List.prefix_iff_eq_take.1 (List.takeWhile_prefix _)).symm
theorem place_lt {S : List Rw} {k : List UInt8} {j : Nat} (hj : j < placeN S k) : (S[j]'(Nat.lt_of_lt_of_le hj (place_le S k))).key < k := by
  have h1 : S[j]'(Nat.lt_of_lt_of_le hj (place_le S k)) ∈ S.takeWhile fun r => decide (r.key < k) := by
    rw [← take_place]
    exact List.mem_take_iff_getElem.2 ⟨j, by have := place_le S k; omega, rfl⟩
  simpa using List.all_eq_true.1 (List.all_takeWhile (p := fun r : Rw => decide (r.key < k)) (l := S)) _ h1
theorem place_of {S : List Rw} {k : List UInt8} {i : Nat} (hi : i ≤ S.length) (h1 : ∀ j (_ : j < i) (hl : j < S.length), S[j].key < k) (h2 : ∀ hl : i < S.length, ¬ S[i].key < k) : placeN S k = i := by
  unfold placeN
  induction S generalizing i with
  | nil => simp at hi ⊢; omega
  | cons y l ih =>
    cases i with
    | zero =>
      have : ¬ y.key < k := h2 (by simp)
      rw [List.takeWhile_cons]
      simp [this]
    | succ i =>
      have : y.key < k := h1 0 (by omega) (by simp)
      rw [List.takeWhile_cons]
      simp only [this, decide_true, if_true, List.length_cons]
      rw [ih (by simpa using hi) (fun j hj hl => h1 (j + 1) (by omega) (by simpa using hl)) (fun hl => h2 (by simpa using hl))]
/-- Whether a key is there. -/
def isAt (S : List Rw) (k : List UInt8) : Bool := match S[placeN S k]? with | some r => decide (r.key = k) | none => false

/-- The value of a reference's store. -/
abbrev rsV (a : Option Addr) (n c : Nat) : Value := .agg #[.slice a n c]
def RsBlk (w : World) (B : Nat) (a : Option Addr) (n c : Nat) : Prop := w.heap[B]? = some (.cells #[.slice a n c] 32 (0, 0))
theorem RsBlk.new (w : World) (a : Option Addr) (n c : Nat) : RsBlk (w.alloc (.cells #[.slice a n c] 32)) w.heap.size a n c := newA w _
theorem RsBlk.c0 {w : World} {B : Nat} {a : Option Addr} {n c : Nat} (h : RsBlk w B a n c) : w.cell? ⟨B, 0, none⟩ = some (.slice a n c) := cellA h
theorem RsBlk.f {w : World} {B : Nat} {a : Option Addr} {n c : Nat} (h : RsBlk w B a n c) (j : Nat) : w.frozen? ⟨B, j, none⟩ = false := by
  unfold RsBlk at h
  simp [World.frozen?, h]
theorem RsBlk.below {w w' : World} {B N : Nat} {a : Option Addr} {n c : Nat} (h : RsBlk w B a n c) (hb : Below N w w') (hN : B < N) : RsBlk w' B a n c := (hb.block B hN).trans h
theorem RsBlk.set {w : World} {B : Nat} {a a' : Option Addr} {n c n' c' : Nat} (h : RsBlk w B a n c) : RsBlk (w.setCell ⟨B, 0, none⟩ (.slice a' n' c')) B a' n' c' := by
  unfold RsBlk at h ⊢
  simp [World.setCell, Array.getElem?_modify, h]

set_option maxRecDepth 100000 in
set_option maxHeartbeats 4000000 in
theorem arPlace_any (a : Option Addr) (c : Nat) (S : List Rw) (kk : List UInt8) (w : World) (h : AlsAt w a S) (hok : ∀ r ∈ S, alE r.ps r.st r.en = 0) (hn : S.length ≤ 1000) :
    Calls Tryd.prog 28 #[.agg #[.slice a S.length c], .string ⟨kk.toArray⟩] w fun e w' => e = .returned (.tuple #[.int .i64 (placeN S kk : Int), .bool (isAt S kk)]) ∧ Below w.heap.size w w' := by
  have d1 := (Below.refl w.heap.size w).alloc (Nat.le_refl _) (.cells #[.slice a S.length c] 32)
  have k1 := RsBlk.new w a S.length c
  obtain ⟨P, HP⟩ : ∃ P, Hid (placeN S kk = P) := ⟨_, Lib.hid rfl⟩
  obtain ⟨Q, HQ⟩ : ∃ Q, Hid (isAt S kk = Q) := ⟨_, Lib.hid rfl⟩
  rw [HP.out, HQ.out]
  obtain ⟨n, hnl⟩ : ∃ n, n = S.length := ⟨_, rfl⟩
  rw [← hnl] at hn d1 k1 ⊢
  have HN := Lib.hid hnl
  have HH := Lib.hid (And.intro h hok)
  have K1 := Lib.hid (And.intro d1 k1)
  have s1 : (w.alloc (.cells #[.slice a n c] 32)).heap.size = w.heap.size + 1 := by simp
  have HS1 := Lib.hid s1
  clear h hok hnl d1 k1 s1
  go_enter Tryd.func28, Tryd.ntmps28
  go_wp2
  go_loopw [6] (fun i wr => ∃ k : Nat, k ≤ n ∧ i = .int .i64 k ∧ Hid (∀ j (hj : j < k) (hl : j < S.length), S[j].key < kk) ∧ Hid (Below (w.heap.size + 1) (w.alloc (.cells #[.slice a n c] 32)) wr)) (fun i _ => n - (intOf i).toNat)
  case atStart => exact ⟨0, Nat.zero_le _, rfl, Lib.hid fun j hj => absurd hj (Nat.not_lt_zero _), Lib.hid (Below.refl _ _)⟩
  case round =>
    obtain ⟨k, hk, rfl, HA, HB⟩ := hrel
    obtain ⟨d1, k1⟩ := K1.out
    have kr := k1.below HB.out (by omega)
    have c0 := kr.c0
    have br : Below w.heap.size w wr := d1.trans (HB.out.mono (by omega))
    have HBR := Lib.hid br
    by_cases hlt : k < n
    · have hkl : (k : Int) < (n : Int) := by omega
      have hkS : k < S.length := by have := HN.out; omega
      obtain ⟨h, hok⟩ := HH.out
      obtain ⟨b1, o1, rfl, hc1, hp1⟩ := (h.below br (Nat.le_refl _)).c k hkS
      have e0 := hc1.2.1
      have HK := Lib.hid (arKey_ok S[k].ad S[k].cp S[k].ps wr hp1 (alE_zero (hok _ (List.getElem_mem hkS))).1 _ rfl)
      have arKey2 := Lib.hid (fun u (q : Below wr.heap.size wr u) => arKey_ok S[k].ad S[k].cp S[k].ps u (hp1.below q (Nat.le_refl _)) (alE_zero (hok _ (List.getElem_mem hkS))).1 _ rfl)
      have HX : Hid ((S[k].key < kk → ∀ j (hj : j < k + 1) (hl : j < S.length), S[j].key < kk) ∧ (¬ S[k].key < kk → P = k ∧ Q = decide (S[k].key = kk))) := Lib.hid ⟨fun e j hj hl => by
          by_cases ej : j = k
          · subst ej; exact e
          · exact HA.out j (by omega) hl, fun e => by
          have hp : placeN S kk = k := place_of (by omega) HA.out (fun _ => e)
          refine ⟨HP.out.symm.trans hp, ?_⟩
          rw [← HQ.out]
          unfold isAt
          rw [hp, List.getElem?_eq_getElem hkS]⟩
      have hkey : S[k].key = keyL S[k].ps := rfl
      rw [hkey] at HX
      clear h hok hc1 hp1 HA br kr d1 k1 hkey
      generalize keyL S[k].ps = sk at *
      generalize S[k].ps.length = np at *
      generalize S[k].ad = ap at *
      generalize S[k].cp = cp at *
      by_cases hls : sk < kk
      · have hl1 := less_yes hls
        have HA2 := Lib.hid (HX.out.1 hls)
        clear HX
        go_wp2_with (go_at_call 29; refine HK.out.mono ?_; rintro e w2 ⟨rfl, q2⟩; refine Hid.out ?_)
        refine Lib.hid ?_
        have HB2 := Lib.hid (HB.out.trans (q2.mono (by have := HB.out.size; have := HS1.out; omega)))
        clear q2 HK c0 e0 HB HBR
        go_wp2
        go_roundw
        case rel => exact ⟨k + 1, by omega, by go_num, HA2, HB2⟩
        case measure => simp [intOf]; omega
      · have hl1 := less_no hls
        obtain ⟨rfl, rfl⟩ := HX.out.2 hls
        have HE := Lib.hid (eqb_dec sk kk)
        have HC := Lib.hid (And.intro c0 e0)
        clear HX HP HQ
        have hb1 : b1 < wr.heap.size := World.block_lt_of_cell? wr _ e0
        have hw1 : w.heap.size < wr.heap.size := World.block_lt_of_cell? wr _ c0
        go_wp2_with (go_at_call 29; refine HK.out.mono ?_; rintro e w2 ⟨rfl, q2⟩; refine Hid.out ?_)
        refine Lib.hid ?_
        have HK2 := Lib.hid (arKey2.out w2 q2)
        have f0 : w2.cell? ⟨w.heap.size, 0, none⟩ = some (.slice (some ⟨b1, o1, none⟩) n c) := (q2.cell (p := ⟨w.heap.size, 0, none⟩) hw1).trans c0
        have f1 : w2.cell? ⟨b1, o1 + P * 3, none⟩ = some (.slice ap np cp) := (q2.cell (p := ⟨b1, o1 + P * 3, none⟩) hb1).trans e0
        have HB2 := Lib.hid (HBR.out.trans (q2.mono HBR.out.size))
        clear q2 HK c0 e0 HB HBR HC
        go_wp2_with (go_at_call 29; refine HK2.out.mono ?_; rintro e w3 ⟨rfl, q3⟩; refine Hid.out ?_)
        refine Lib.hid ?_
        have HB3 := Lib.hid (HB2.out.trans (q3.mono HB2.out.size))
        clear q3 HK2 HB2 f0 f1
        go_wp2
        go_ret2
        exact ⟨by rw [← HE.out]; rfl, HB3.out⟩
    · have hkl : ¬ (k : Int) < (n : Int) := by omega
      obtain rfl : k = n := by omega
      have hS := HN.out
      have hp : placeN S kk = k := place_of (by omega) HA.out (fun hl => by omega)
      obtain rfl : k = P := hp.symm.trans HP.out
      obtain rfl : false = Q := by
        rw [← HQ.out]
        unfold isAt
        rw [hp, List.getElem?_eq_none (by omega)]
      clear hS hp HP HQ HA br kr d1 k1
      go_wp2
      go_ret2
      exact ⟨rfl, HBR.out⟩

end Go.Proofs.YtdnpfmmkglgnjabDoor
