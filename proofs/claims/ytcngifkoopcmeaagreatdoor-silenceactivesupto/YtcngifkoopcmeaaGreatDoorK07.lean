/-
  inner, and an atom, as the program reads them.
-/
import Derived.Test.YtcngifkoopcmeaaGreatDoorK06
namespace Go.Proofs.YtcngifkoopcmeaaGreatDoor
open Go.RowKit

/-- That rows are read as they should be, of less than n bytes. -/
def RowsOk (n B rb xb : Nat) (s : ByteArray) : Prop := ∀ (w : World) (k : Nat) (l : List UInt8) (v : Value) (pl : List Pl), l.length < n → St w B rb xb s k l v pl → Reads 187 (pLoop n noL epsL l) w B rb xb s v pl

def pInner (n : Nat) (l : List UInt8) : Option (Lang × List UInt8) := match pLoop n noL epsL l with | none => none | some (A, l') => if l'.head? = some 41 then some (A, l'.drop 1) else none

variable {w : World} {B rb xb : Nat} {s : ByteArray} {k : Nat} {l : List UInt8} {v : Value} {pl : List Pl}

theorem head_form {l : List UInt8} {c : UInt8} (h : l.head? = some c) : ∃ r, l = c :: r := by
  cases l with
  | nil => cases h
  | cons d r => exact ⟨r, by simpa using h⟩

set_option maxHeartbeats 2000000 in
theorem inner_any (n : Nat) (IH : RowsOk n B rb xb s) (h : St w B rb xb s k l v pl) (hl : l.length < n) : Reads 228 (pInner n l) w B rb xb s v pl := by
  have hrl := h.rlt
  have hxl := h.xlt
  have hvl := h.vlt
  have hBl := h.Ble
  obtain ⟨W, hW, hbW, hpW, hsW⟩ := h.pc
  have HR := IH W k l v pl hl hsW
  have hPI : Hid (pInner n l = match pLoop n noL epsL l with | none => none | some (A, l') => if l'.head? = some 41 then some (A, l'.drop 1) else none) := Lib.hid rfl
  cases ho : pLoop n noL epsL l with
  | none =>
    rw [ho] at HR
    have e : pInner n l = none := by rw [hPI.out, ho]
    rw [e]
    have HR : Hid (Calls _ _ _ _ _) := Lib.hid HR
    clear hPI e ho IH
    subst hW
    show Calls Tryz.prog 228 _ w _
    go_enter Tryz.func228, Tryz.ntmps228
    go_wp2_with (go_at_call 187; refine HR.out.mono ?_; rintro e w2 ⟨rfl, hb2⟩)
    exact ⟨rfl, rfl, (hbW.mono hBl).trans hb2⟩
  | some q =>
    obtain ⟨A, l'⟩ := q
    rw [ho] at HR
    have HR : Hid (Calls _ _ _ _ _) := Lib.hid HR
    by_cases hh : l'.head? = some 41
    · obtain ⟨r, rfl⟩ := head_form hh
      have e : pInner n l = some (A, r) := by rw [hPI.out, ho]; exact if_pos hh
      rw [e]
      clear hPI e ho IH hh
      subst hW
      show Calls Tryz.prog 228 _ w _
      go_enter Tryz.func228, Tryz.ntmps228
      go_wp2_with (go_at_call 187; refine HR.out.mono ?_; rintro e w2 ⟨P, rfl, k2, v2, pl2, hR⟩; refine Hid.out ?_)
      refine Lib.hid ?_
      have hR3 := hR.below (w2 := w2.alloc (.cells #[.int .u64 (P.first : Int), .int .u64 (P.last : Int), .bool P.empty] 237)) ((Below.refl _ _).alloc (Nat.le_refl _) _)
      have hp3 := pc_made w2 P
      have hz : w.heap.size < w2.heap.size := by have := hR.chg.size; simp at this; omega
      have hq2 := hR.pcs hpW (by omega) (by omega) (fun e => by have := (hvl _ e).2; omega)
      have hq3 := hq2.below (w' := w2.alloc (.cells #[.int .u64 (P.first : Int), .int .u64 (P.last : Int), .bool P.empty] 237)) ((Below.refl _ _).alloc (Nat.le_refl _) _)
      have hvn := hR.away (b := w.heap.size) (by simp) (fun e => by have := (hvl _ e).2; omega)
      have HS := Lib.hid (skip_ok rb xb s k2 r 41 _ hR3.st.rd hR3.st.left)
      go_wp2_with (go_at_call 205; refine HS.out.mono ?_; rintro e w4 ⟨rfl, hr4, hg4⟩; refine Hid.out ?_)
      refine Lib.hid ?_
      have hR4 := (hR3.then hg4 hr4 hR3.st.left.next (by simp)).early hbW
      have hp4 := hp3.chg (Chg.of_grown hg4) (by omega)
      have hq4 := hq3.chg (Chg.of_grown hg4) (by omega)
      clear hR hR3 hp3 hq2 hq3 HS hg4 hr4 hbW hpW hsW
      have c0 := hp4.c0
      have c1 := hp4.c1
      have c2 := hp4.c2
      have r0 := hq4.c0
      have r1 := hq4.c1
      have r2 := hq4.c2
      have f0 := hq4.fz 0
      have f1 := hq4.fz 1
      have f2 := hq4.fz 2
      go_wp2
      exact bodyPost_ret (v := .agg #[.int .u64 (P.first : Int), .int .u64 (P.last : Int), .bool P.empty]) (by simp [results, Tryz.results228, go_sem, r0, r1, r2]) rfl ⟨P, rfl, _, _, _, hR4.sets (Nat.le_refl _) hrl hxl hvn _ _ _⟩
    · have hsn : seesB l' 41 = false := Bool.eq_false_iff.2 fun e => hh (sees_head.1 e)
      have e : pInner n l = none := by rw [hPI.out, ho]; exact if_neg hh
      rw [e]
      clear hPI e ho IH hh
      subst hW
      show Calls Tryz.prog 228 _ w _
      go_enter Tryz.func228, Tryz.ntmps228
      go_wp2_with (go_at_call 187; refine HR.out.mono ?_; rintro e w2 ⟨P, rfl, k2, v2, pl2, hR⟩; refine Hid.out ?_)
      refine Lib.hid ?_
      have hR3 := hR.below (w2 := w2.alloc (.cells #[.int .u64 (P.first : Int), .int .u64 (P.last : Int), .bool P.empty] 237)) ((Below.refl _ _).alloc (Nat.le_refl _) _)
      have HS := Lib.hid (skip_no rb xb s k2 l' 41 _ hR3.st.rd hR3.st.left hsn)
      have hlost := (hbW.mono hBl).trans (hsW.lost hR3.chg)
      clear hsn
      go_wp2_with (first | (go_at_call 205; refine HS.out.mono ?_; rintro e w4 ⟨rfl, nd, rfl⟩) | (go_at_call 188; refine (giveUp_any _).mono ?_; rintro e w5 ⟨rfl, rfl⟩))
      exact ⟨rfl, rfl, hlost.trans ⟨rfl, rfl, rfl, Nat.le_refl _, fun _ _ => rfl⟩⟩

end Go.Proofs.YtcngifkoopcmeaaGreatDoor
