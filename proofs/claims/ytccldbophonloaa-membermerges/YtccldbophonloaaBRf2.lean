/-
  The reference of layer 15: There, Position, SameNodes.
-/
import Derived.Test.YtccldbophonloaaBRf1
namespace Go.Proofs.Ytccldbophonloaa
open Go Go.RowKit

theorem below_drewM (w : World) (n : Nat) : Below w.heap.size w (w.drewN n) := ⟨rfl, rfl, rfl, Nat.le_refl _, fun _ _ => rfl⟩

set_option maxRecDepth 20000 in
set_option maxHeartbeats 4000000 in
theorem brThere_any (s : Int) (a : Option Addr) (n c : Nat) (L : List Mem) (w : World) (hM : MemsAt w a L) (hn : n = L.length) (hl : L.length ≤ 100000) :
    Calls Try.prog 33 #[.agg #[.int .u16 s, .slice a n c]] w (bTherePost (thereL L) w) := by
  have d1 := (Below.refl w.heap.size w).alloc (Nat.le_refl _) (.cells #[.int .u16 s, .slice a n c] 28)
  have r1 := RtB.new w s a n c
  have hn1 : n ≤ 100000 := by omega
  have HN := Lib.hid hn
  have HM := Lib.hid (hM.on d1)
  clear hM hn hl
  have HQ := Lib.hid (And.intro d1 r1)
  clear d1 r1
  go_enter Try.func33, Try.ntmps33
  go_wp2_with fail
  generalize w.alloc (.cells #[.int .u16 s, .slice a n c] 28) = W at *
  go_wp2
  go_loopw [3, 4] (fun v x wr => ∃ (i : Nat) (a3 : Option Addr) (n3 c3 : Nat), i ≤ n ∧ x = .int .i64 (i : Int) ∧ v = .slice a3 n3 c3 ∧ Hid (OwnU wr W.heap.size (.slice a3 n3 c3) (thereL (L.take i)) ∧ Below W.heap.size W wr)) (fun _ x _ => n - (intOf x).toNat)
  case atStart => exact ⟨0, none, 0, 0, Nat.zero_le _, rfl, rfl, Lib.hid ⟨OwnU.nil _ _, Below.refl _ _⟩⟩
  case round =>
    obtain ⟨i, a3, n3, c3, hi, rfl, rfl, HS⟩ := hrel
    have rr := HQ.out.2.on HS.out.2
    have c0 := rr.c0; have c1 := rr.c1
    clear rr
    by_cases hlt : i < n
    case neg =>
      have hkl : ¬ (i : Int) < (n : Int) := by omega
      have HF : Hid (OwnU wr W.heap.size (.slice a3 n3 c3) (thereL L)) := Lib.hid (by
        have e : L.take i = L := List.take_of_length_le (by have := HN.out; omega)
        have h1 := HS.out.1
        rwa [e] at h1)
      have HE := Lib.hid (HQ.out.1.trans (HS.out.2.mono HQ.out.1.size))
      clear HS
      go_wp2
      go_ret
      obtain ⟨x, y, e, -, -⟩ := HF.out.form
      simp only [Value.slice.injEq] at e
      exact ⟨a3, n3, c3, rfl, e.2.1, HF.out.base HQ.out.1.size, HE.out⟩
    have hkl : (i : Int) < (n : Int) := by omega
    have hkx : i < L.length := by have := HN.out; omega
    obtain ⟨ba, oa, rfl, hba, d0, d1, d2⟩ := (HM.out.on HS.out.2).cells i hkx
    have HT1 := Lib.hid (thereL_snoc (L.take i) L[i])
    rw [← List.take_succ_eq_append_getElem hkx] at HT1
    generalize L[i] = x at *
    obtain ⟨xn, xs, xi⟩ := x
    dsimp only at d0 d1 d2 HT1
    clear hkx
    by_cases hx : xs = 2
    · subst hx
      rw [if_pos rfl, List.append_nil] at HT1
      have HST : Hid (OwnU wr W.heap.size (.slice a3 n3 c3) (thereL (L.take (i + 1))) ∧ Below W.heap.size W wr) := Lib.hid (by rw [HT1.out]; exact HS.out)
      clear HS HT1
      go_wp2
      go_roundw
      case rel => exact ⟨i + 1, _, _, _, by omega, by go_num, rfl, HST⟩
      case measure => simp [intOf]; omega
    · rw [if_neg hx] at HT1
      have hx1 : (xs == 2) = false := by simpa using hx
      obtain ⟨i0, hi', hi0, hi1, hi2⟩ := infoU
      have hown3 : wr.ownsRow W.heap.size 22 1 (.slice a3 n3 c3) (thereL (L.take i)).length (cellsU (thereL (L.take i))) := HS.out.1
      have hlen : (thereL (L.take i)).length ≤ 100000 := by
        have h1 := thereL_len (L.take i)
        have h3 : (L.take i).length ≤ L.length := by rw [List.length_take]; omega
        have := HN.out
        omega
      generalize thereL (L.take i) = acc at *
      have hszz := HS.out.2.size
      go_wp2_with (at_builtin; refine wpList_append_own _ rfl _ _ 47 rfl W.heap.size 22 i0 _ 1 2 Try.underlying47 hi' hi0 hi1 hi2 rfl (by decide) _ _ _ rfl (World.ownsRow.alloc hown3 _) ⟨wr.heap.size, 0, none⟩ 1 1 [.int .u16 xn] rfl rfl (World.news_of_block (cs := #[.int .u16 xn]) (newE _ _)) (by intro u' hu'; simp at hu'; rcases hu' with rfl | rfl | rfl <;> rfl) (by unfold maxLen; omega) (by omega) (by simp; omega) ?_; refine Hid.out ?_)
      refine Lib.hid ?_
      intro v7 w7 hown7 hg7 _
      have hA7 : OwnU w7 W.heap.size v7 (acc ++ [xn]) := OwnU.push hown7
      obtain ⟨a7, c7, rfl, -, -⟩ := hA7.form
      have hbz : ∀ j, (Value.slice a3 n3 c3).ownBlock = some j → W.heap.size ≤ j := fun j hj => (World.ownsRow.lt hown3 j hj).1
      have hb2 := (Below.refl wr.heap.size wr).alloc (Nat.le_refl _) (.cells #[.int .u16 xn] 22)
      have s7 : Below W.heap.size wr w7 := (hb2.mono hszz).grown hg7 (by simp; omega) (fun j hj => hbz j hj)
      have HST : Hid (OwnU w7 W.heap.size (.slice a7 (acc ++ [xn]).length c7) (thereL (L.take (i + 1))) ∧ Below W.heap.size W w7) := Lib.hid ⟨by rw [HT1.out]; exact hA7, HS.out.2.trans s7⟩
      clear hA7 s7 hb2 hbz hown7 hg7 hown3 hi' hi0 hi1 hi2 hszz hlen HT1 HS d0 d1 d2 c0 c1
      generalize (acc ++ [xn]).length = n7 at *
      go_wp2
      go_roundw
      case rel => exact ⟨i + 1, _, _, _, by omega, by go_num, rfl, HST⟩
      case measure => simp [intOf]; omega

theorem posL_snoc (s : Nat) (l : List Int) (x : Int) : posL s (l ++ [x]) = posL s l + (if x < (s : Int) then 1 else 0) := by
  unfold posL
  rw [List.countP_append]
  by_cases h : x < (s : Int) <;> simp [h]
theorem posL_le (s : Nat) (l : List Int) : posL s l ≤ l.length := List.countP_le_length

set_option maxRecDepth 20000 in
set_option maxHeartbeats 4000000 in
theorem brPosition_any (s : Nat) (a : Option Addr) (n c : Nat) (L : List Mem) (w : World) (hM : MemsAt w a L) (hn : n = L.length) (hl : L.length ≤ 100000) :
    Calls Try.prog 34 #[.agg #[.int .u16 (s : Int), .slice a n c]] w fun e w' => e = .returned (.int .i64 (posL s (thereL L) : Int)) ∧ Below w.heap.size w w' := by
  have d1 := (Below.refl w.heap.size w).alloc (Nat.le_refl _) (.cells #[.int .u16 (s : Int), .slice a n c] 28)
  have r1 := RtB.new w (s : Int) a n c
  have HT := Lib.hid (brThere_any (s : Int) a n c L _ (hM.on d1) hn hl)
  have HQ := Lib.hid (And.intro d1 r1)
  have c0 := r1.c0; have c1 := r1.c1
  have hlen : (thereL L).length ≤ 100000 := by have := thereL_len L; omega
  clear d1 r1 hM hn hl
  obtain ⟨S, hS⟩ : ∃ S, thereL L = S := ⟨_, rfl⟩
  rw [hS] at HT hlen ⊢
  clear hS
  go_enter Try.func34, Try.ntmps34
  go_wp2_with (go_at_call 33; refine HT.out.mono ?_; rintro e w1 ⟨a1, n1, k1, rfl, hn1, ho1, q1⟩; replace hn1 := Lib.hid hn1; replace ho1 := Lib.hid ho1; replace q1 := Lib.hid q1; refine Hid.out ?_)
  refine Lib.hid ?_
  have rr := HQ.out.2.on q1.out
  have HRr := Lib.hid rr
  have HB1 := Lib.hid (HQ.out.1.trans (q1.out.mono HQ.out.1.size))
  have HNo : Hid (NodesAt w1 a1 S) := Lib.hid (by
    obtain ⟨x, y, e, h1, h2⟩ := ho1.out.form
    simp only [Value.slice.injEq] at e
    obtain ⟨rfl, -⟩ := e
    exact h2)
  clear rr c0 c1 HQ HT ho1 q1
  have hn2 : n1 ≤ 100000 := by have := hn1.out; omega
  have HLe := Lib.hid hlen
  clear hlen
  go_wp2
  go_loopw [3, 5] (fun v x wr => ∃ (i p : Nat), i ≤ n1 ∧ x = .int .i64 (i : Int) ∧ v = .int .i64 (p : Int) ∧ p ≤ i ∧ Hid (p = posL s (S.take i) ∧ Below w1.heap.size w1 wr)) (fun _ x _ => n1 - (intOf x).toNat)
  case atStart => exact ⟨0, 0, Nat.zero_le _, rfl, rfl, Nat.le_refl _, Lib.hid ⟨rfl, Below.refl _ _⟩⟩
  case round =>
    obtain ⟨i, p, hi, rfl, rfl, hpi, HP⟩ := hrel
    have c0 := (HRr.out.on HP.out.2).c0
    by_cases hlt : i < n1
    case neg =>
      have hkl : ¬ (i : Int) < (n1 : Int) := by omega
      have HF : Hid (p = posL s S) := Lib.hid (by
        have e : S.take i = S := List.take_of_length_le (by have := hn1.out; omega)
        have h1 := HP.out.1
        rwa [e] at h1)
      have HE := Lib.hid (HB1.out.trans (HP.out.2.mono HB1.out.size))
      clear HP
      go_wp2
      go_ret
      exact ⟨by have e := HF.out; first | exact e | (subst e; rfl) | (rw [e]; rfl) | simpa using e, HE.out⟩
    have hkl : (i : Int) < (n1 : Int) := by omega
    have hkx : i < S.length := by have := hn1.out; omega
    obtain ⟨ba, oa, rfl, d0⟩ := (HNo.out.on HP.out.2).get i hkx
    have HT1 := Lib.hid (posL_snoc s (S.take i) S[i])
    rw [← List.take_succ_eq_append_getElem hkx] at HT1
    generalize S[i] = x at *
    clear hkx
    have hp2 : IntKind.i64.wrap ((p : Int) + 1) = (p : Int) + 1 := by rw [IntKind.wrap_i64]; omega
    by_cases hx : x < (s : Int)
    · rw [if_pos hx] at HT1
      have HST : Hid (p + 1 = posL s (S.take (i + 1)) ∧ ∀ wq, Below wr.heap.size wr wq → Below w1.heap.size w1 wq) := Lib.hid ⟨by rw [HT1.out, HP.out.1], fun wq hq => HP.out.2.trans (hq.mono HP.out.2.size)⟩
      clear HT1 HP
      go_wp2_with fail
      go_quiet (fail)
      go_wp2
      go_roundw
      case rel => exact ⟨i + 1, p + 1, by omega, by go_num, by go_num, by omega, Lib.hid ⟨HST.out.1, HST.out.2 _ (below_drewM _ _)⟩⟩
      case measure => simp [intOf]; omega
    · rw [if_neg hx, Nat.add_zero] at HT1
      have HST : Hid (p = posL s (S.take (i + 1)) ∧ ∀ wq, Below wr.heap.size wr wq → Below w1.heap.size w1 wq) := Lib.hid ⟨by have e := HT1.out; have e2 := HP.out.1; omega, fun wq hq => HP.out.2.trans (hq.mono HP.out.2.size)⟩
      clear HT1 HP
      go_wp2_with fail
      go_quiet (fail)
      go_wp2
      go_roundw
      case rel => exact ⟨i + 1, p, by omega, by go_num, rfl, by omega, Lib.hid ⟨HST.out.1, HST.out.2 _ (below_drewM _ _)⟩⟩
      case measure => simp [intOf]; omega

/-- Whether two lists of nodes are one. -/
def sameNs (xs ys : List Int) : Bool := decide (xs = ys)
set_option maxRecDepth 20000 in
set_option maxHeartbeats 4000000 in
theorem brSameN_yes (a b : Option Addr) (n c d : Nat) (xs : List Int) (w : World) (ha : NodesAt w a xs) (hb : NodesAt w b xs) (hn : n = xs.length) (hl : xs.length ≤ 100000) :
    Calls Try.prog 32 #[.slice a n c, .slice b n d] w fun e w' => e = .returned (.bool true) ∧ Below w.heap.size w w' := by
  have hn1 : n ≤ 100000 := by omega
  have HN := Lib.hid hn
  have HA := Lib.hid ha
  have HB := Lib.hid hb
  clear hn hl ha hb
  go_enter Try.func32, Try.ntmps32
  go_wp2
  go_loopw [5] (fun x wr => ∃ (i : Nat), i ≤ n ∧ x = .int .i64 (i : Int) ∧ Hid (Below w.heap.size w wr)) (fun x _ => n - (intOf x).toNat)
  case atStart => exact ⟨0, Nat.zero_le _, rfl, Lib.hid (Below.refl _ _)⟩
  case round =>
    obtain ⟨i, hi, rfl, HP⟩ := hrel
    by_cases hlt : i < n
    case neg =>
      have hkl : ¬ (i : Int) < (n : Int) := by omega
      go_wp2
      go_ret
      exact ⟨rfl, HP.out⟩
    have hkl : (i : Int) < (n : Int) := by omega
    have hkx : i < xs.length := by have := HN.out; omega
    obtain ⟨ba, oa, rfl, d0⟩ := (HA.out.on HP.out).get i hkx
    obtain ⟨bb, ob, rfl, e0⟩ := (HB.out.on HP.out).get i hkx
    generalize xs[i] = x at *
    have HST : Hid (∀ wq, Below wr.heap.size wr wq → Below w.heap.size w wq) := Lib.hid (fun wq hq => HP.out.trans (hq.mono HP.out.size))
    clear hkx HP
    go_wp2_with fail
    go_quiet (fail)
    go_wp2
    go_roundw
    case rel => exact ⟨i + 1, by omega, by go_num, Lib.hid (HST.out _ (below_drewM _ _))⟩
    case measure => simp [intOf]; omega

end Go.Proofs.Ytccldbophonloaa
