/-
  The reference of layer 15: There, Position, SameNodes.
-/
import Derived.Test.YtnoconampcemoaaBRf1
namespace Go.Proofs.Ytnoconampcemoaa
open Go Go.RowKit

theorem below_drewM (w : World) (n : Nat) : Below w.heap.size w (w.drewN n) := ⟨rfl, rfl, rfl, Nat.le_refl _, fun _ _ => rfl⟩

set_option maxRecDepth 20000 in
set_option maxHeartbeats 4000000 in
theorem brThere_any (s : Int) (a : Option Addr) (n c : Nat) (L : List Mem) (w : World) (hM : MemsAt w a L) (hn : n = L.length) (hl : L.length ≤ 100000) :
    Calls Try.prog 58 #[.agg #[.int .u16 s, .slice a n c]] w (bTherePost (thereL L) w) := by
  have d1 := (Below.refl w.heap.size w).alloc (Nat.le_refl _) (.cells #[.int .u16 s, .slice a n c] 35)
  have r1 := RtB.new w s a n c
  have hn1 : n ≤ 100000 := by omega
  have HN := Lib.hid hn
  have HM := Lib.hid (hM.on d1)
  clear hM hn hl
  have HQ := Lib.hid (And.intro d1 r1)
  clear d1 r1
  go_enter Try.func58, Try.ntmps58
  go_wp2_with fail
  generalize w.alloc (.cells #[.int .u16 s, .slice a n c] 35) = W at *
  go_wp2
  go_loopw [3, 4] (fun v x wr => ∃ (i : Nat) (a3 : Option Addr) (n3 c3 : Nat), i ≤ n ∧ x = .int .i64 (i : Int) ∧ v = .slice a3 n3 c3 ∧ Hid (OwnU wr W.heap.size (.slice a3 n3 c3) (thereL (L.take i)) ∧ Below W.heap.size W wr)) (fun _ x _ => n - (intOf x).toNat)
  case atStart => exact ⟨0, none, 0, 0, Nat.zero_le _, rfl, rfl, Lib.hid ⟨OwnU.nil _ _, Below.refl _ _⟩⟩
  case round =>
    obtain ⟨i, a3, n3, c3, hi, rfl, rfl, HS⟩ := hrel
    have rr := HQ.out.2.on HS.out.2
    have c0 := rr.c0; have c1 := rr.c1
    clear rr
    by_cases hlt : i < n
    case neg =>
      have hkl : ¬ (i : Int) < (n : Int) := by omega
      have HF : Hid (OwnU wr W.heap.size (.slice a3 n3 c3) (thereL L)) := Lib.hid (by
        have e : L.take i = L := List.take_of_length_le (by have := HN.out; omega)
        have h1 := HS.out.1
        rwa [e] at h1)
      have HE := Lib.hid (HQ.out.1.trans (HS.out.2.mono HQ.out.1.size))
      clear HS
      go_wp2
      go_ret
      obtain ⟨x, y, e, -, -⟩ := HF.out.form
      simp only [Value.slice.injEq] at e
      exact ⟨a3, n3, c3, rfl, e.2.1, HF.out.base HQ.out.1.size, HE.out⟩
    have hkl : (i : Int) < (n : Int) := by omega
    have hkx : i < L.length := by have := HN.out; omega
    obtain ⟨ba, oa, rfl, hba, d0, d1, d2⟩ := (HM.out.on HS.out.2).cells i hkx
    have HT1 := Lib.hid (thereL_snoc (L.take i) L[i])
    rw [← List.take_succ_eq_append_getElem hkx] at HT1
    generalize L[i] = x at *
    obtain ⟨xn, xs, xi⟩ := x
    dsimp only at d0 d1 d2 HT1
    clear hkx
    by_cases hx : xs = 2
    · subst hx
      rw [if_pos rfl, List.append_nil] at HT1
      have HST : Hid (OwnU wr W.heap.size (.slice a3 n3 c3) (thereL (L.take (i + 1))) ∧ Below W.heap.size W wr) := Lib.hid (by rw [HT1.out]; exact HS.out)
      clear HS HT1
      go_wp2
      go_roundw
      case rel => exact ⟨i + 1, _, _, _, by omega, by go_num, rfl, HST⟩
      case measure => simp [intOf]; omega
    · rw [if_neg hx] at HT1
      have hx1 : (xs == 2) = false := by simpa using hx
      obtain ⟨i0, hi', hi0, hi1, hi2⟩ := infoU
      have hown3 : wr.ownsRow W.heap.size 22 1 (.slice a3 n3 c3) (thereL (L.take i)).length (cellsU (thereL (L.take i))) := HS.out.1
      have hlen : (thereL (L.take i)).length ≤ 100000 := by
        have h1 := thereL_len (L.take i)
        have h3 : (L.take i).length ≤ L.length := by rw [List.length_take]; omega
        have := HN.out
        omega
      generalize thereL (L.take i) = acc at *
      have hszz := HS.out.2.size
      go_wp2_with (at_builtin; refine wpList_append_own _ rfl _ _ 115 rfl W.heap.size 22 i0 _ 1 2 Try.underlying115 hi' hi0 hi1 hi2 rfl (by decide) _ _ _ rfl (World.ownsRow.alloc hown3 _) ⟨wr.heap.size, 0, none⟩ 1 1 [.int .u16 xn] rfl rfl (World.news_of_block (cs := #[.int .u16 xn]) (newE _ _)) (by intro u' hu'; simp at hu'; rcases hu' with rfl | rfl | rfl <;> rfl) (by unfold maxLen; omega) (by omega) (by simp; omega) ?_; refine Hid.out ?_)
      refine Lib.hid ?_
      intro v7 w7 hown7 hg7 _
      have hA7 : OwnU w7 W.heap.size v7 (acc ++ [xn]) := OwnU.push hown7
      obtain ⟨a7, c7, rfl, -, -⟩ := hA7.form
      have hbz : ∀ j, (Value.slice a3 n3 c3).ownBlock = some j → W.heap.size ≤ j := fun j hj => (World.ownsRow.lt hown3 j hj).1
      have hb2 := (Below.refl wr.heap.size wr).alloc (Nat.le_refl _) (.cells #[.int .u16 xn] 22)
      have s7 : Below W.heap.size wr w7 := (hb2.mono hszz).grown hg7 (by simp; omega) (fun j hj => hbz j hj)
      have HST : Hid (OwnU w7 W.heap.size (.slice a7 (acc ++ [xn]).length c7) (thereL (L.take (i + 1))) ∧ Below W.heap.size W w7) := Lib.hid ⟨by rw [HT1.out]; exact hA7, HS.out.2.trans s7⟩
      clear hA7 s7 hb2 hbz hown7 hg7 hown3 hi' hi0 hi1 hi2 hszz hlen HT1 HS d0 d1 d2 c0 c1
      generalize (acc ++ [xn]).length = n7 at *
      go_wp2
      go_roundw
      case rel => exact ⟨i + 1, _, _, _, by omega, by go_num, rfl, HST⟩
      case measure => simp [intOf]; omega

theorem posL_snoc (s : Nat) (l : List Int) (x : Int) : posL s (l ++ [x]) = posL s l + (if x < (s : Int) then 1 else 0) := by
  unfold posL
  rw [List.countP_append]
  by_cases h : x < (s : Int) <;> simp [h]
theorem posL_le (s : Nat) (l : List Int) : posL s l ≤ l.length := List.countP_le_length

/-- Whether two lists of nodes are one. -/
def sameNs (xs ys : List Int) : Bool := decide (xs = ys)
end Go.Proofs.Ytnoconampcemoaa
