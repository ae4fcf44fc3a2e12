/-
  The walk of MemberPlaces.
-/
import Derived.Test.YtccldbophonloaaBW
namespace Go.Proofs.Ytccldbophonloaa
open Go Go.RowKit

set_option maxRecDepth 100000 in
set_option maxHeartbeats 16000000 in
theorem places_walk (a : Option Addr) (c n : Nat) (l : List Mem) (W : World) (hM : MemsAt W a l) (hF : FitM l) (hn : n = l.length) :
    Calls Try.prog 8 #[.slice a n c] W fun e w' => e = .returned (.bool true) ∧ Below W.heap.size W w' := by
  have HAw := Lib.hid (fun u => bawake_any u)
  by_cases h150 : n ≤ 150
  case neg =>
    have hgt : (150 : Int) < (n : Int) := by omega
    go_enter Try.func8, Try.ntmps8
    go_wp2_with (go_at_call 9; refine (HAw.out _).mono ?_; rintro e w1 ⟨rfl, q1⟩; replace q1 := Lib.hid q1; refine Hid.out ?_)
    refine Lib.hid ?_
    go_wp2
    go_ret
    exact ⟨rfl, q1.out⟩
  have hgt : ¬ (150 : Int) < (n : Int) := by omega
  have HM := Lib.hid hM
  have HF := Lib.hid hF
  have HL : Hid (l.length ≤ 150) := Lib.hid (by omega)
  have HN := Lib.hid hn
  clear hM hF hn
  have HNw := Lib.hid (bNew_any 0 W)
  go_enter Try.func8, Try.ntmps8
  go_wp2_with (go_at_call 10; refine HNw.out.mono ?_; rintro e w1 ⟨rfl, t1, q1⟩; replace t1 := Lib.hid t1; replace q1 := Lib.hid q1; refine Hid.out ?_)
  refine Lib.hid ?_
  have HMe := Lib.hid (bMerge_any W.heap.size (newB 0) a c n l (fun m hm => (HF.out m hm).1) HN.out (by have := HL.out; omega) w1 t1.out (HM.out.on q1.out) (fun h0 q e => by
    obtain ⟨x, y, e2, hlt, -⟩ := HM.out h0
    rw [e] at e2
    obtain rfl := Option.some.inj e2
    exact Nat.ne_of_lt hlt))
  go_wp2_with (go_at_call 17; refine HMe.out.mono ?_; rintro e w2 ⟨a2, n2, c2, rfl, -, t2, g2⟩; replace t2 := Lib.hid t2; replace g2 := Lib.hid g2; refine Hid.out ?_)
  refine Lib.hid ?_
  have HS2 : Hid (BSt W w2 (mergeB (newB 0) l)) := Lib.hid ⟨mergeB_ok (newB_ok (by decide)) HF.out, t2.out, q1.out.grown g2.out q1.out.size (fun j e => by cases e; exact Nat.le_refl _)⟩
  have HTs : Hid ((mergeB (newB 0) l).s = 0) := Lib.hid (mergeB_s _ _)
  clear HNw HMe t1 q1 t2 g2
  generalize mergeB (newB 0) l = T at *
  clear HM HF HL HN
  have HTh := Lib.hid (bThere_any W.heap.size T w2 HS2.out.tab)
  go_wp2_with (go_at_call 23; refine HTh.out.mono ?_; rintro e w3 ⟨a3, n3, c3, rfl, hn3, ho3, q3⟩; replace hn3 := Lib.hid hn3; replace ho3 := Lib.hid ho3; replace q3 := Lib.hid q3; refine Hid.out ?_)
  refine Lib.hid ?_
  have HS3 := Lib.hid (HS2.out.on q3.out)
  have HN3 : Hid (NodesAt w3 a3 (thereB T) ∧ ∀ q, a3 = some q → W.heap.size < q.block ∧ q.block < w3.heap.size) := Lib.hid (by
    obtain ⟨x, y, e, h1, h2⟩ := ho3.out.form
    simp only [Value.slice.injEq] at e
    obtain ⟨rfl, -⟩ := e
    exact ⟨h2, fun q e => ⟨Nat.lt_of_lt_of_le HS2.out.lt (h1 q e).1, (h1 q e).2⟩⟩)
  have hsz3 : n3 ≤ 100000 := by have := hn3.out; have := thereL_len (memsB T); have := memsB_len T; unfold thereB at *; omega
  clear HTh HS2 ho3 q3
  go_wp2
  go_loopw [5] (fun x wr => ∃ (k : Nat), k ≤ n3 ∧ x = .int .i64 (k : Int) ∧ Hid (BSt W wr T ∧ NodesAt wr a3 (thereB T) ∧ w3.heap.size ≤ wr.heap.size)) (fun x _ => n3 - (intOf x).toNat)
  case atStart => exact ⟨0, Nat.zero_le _, rfl, Lib.hid ⟨HS3.out, HN3.out.1, Nat.le_refl _⟩⟩
  case round =>
    clear HS3
    obtain ⟨k, hk, rfl, HS⟩ := hrel
    by_cases hlt : k < n3
    case neg =>
      have hkl : ¬ (k : Int) < (n3 : Int) := by omega
      go_wp2_with (go_at_call 9; refine (HAw.out _).mono ?_; rintro e w9 ⟨rfl, q9⟩; replace q9 := Lib.hid q9; refine Hid.out ?_)
      refine Lib.hid ?_
      have HE := Lib.hid (HS.out.1.on q9.out).below
      go_wp2
      go_ret
      exact ⟨rfl, HE.out⟩
    have hkl : (k : Int) < (n3 : Int) := by omega
    obtain ⟨hkx⟩ : Nonempty (k < (thereB T).length) := ⟨by have := hn3.out; omega⟩
    obtain ⟨xk, hxk, hx64⟩ := thereB_node HS.out.1.ok (List.getElem_mem hkx)
    have HPos : Hid (∀ U : Tb, memsB U = memsB T → U.s = xk → posB U = k) := Lib.hid (fun U he hs => posB_at HS.out.1.ok he hkx (by rw [hs]; exact hxk))
    obtain ⟨bt, ot, rfl, hc⟩ := HS.out.2.1.get k hkx
    rw [hxk] at hc
    have HC := Lib.hid hc
    have c0 := hc
    have HBt := Lib.hid (HN3.out.2 _ rfl)
    clear hc hxk hkx
    have HNk := Lib.hid (bNew_any xk wr)
    have hmod : xk % 64 = xk := Nat.mod_eq_of_lt hx64
    rw [hmod] at HNk
    clear hmod
    go_wp2_with (go_at_call 10; refine HNk.out.mono ?_; rintro e w4 ⟨rfl, t4, q4⟩; replace t4 := Lib.hid t4; replace q4 := Lib.hid q4; refine Hid.out ?_)
    refine Lib.hid ?_
    have HU4 : Hid (TbOk (newB xk)) := Lib.hid (newB_ok hx64)
    have HS4 : Hid (BSt W w4 T ∧ NodesAt w4 (some ⟨bt, ot, none⟩) (thereB T) ∧ w3.heap.size ≤ w4.heap.size) := Lib.hid ⟨HS.out.1.on q4.out, HS.out.2.1.on q4.out, Nat.le_trans HS.out.2.2 q4.out.size⟩
    have c0 : w4.cell? ⟨bt, ot + k, none⟩ = some (.int .u16 (xk : Int)) := (q4.out.cell (p := ⟨bt, ot + k, none⟩) (Nat.lt_of_lt_of_le HBt.out.2 HS.out.2.2)).trans HC.out
    have hub : Hid (W.heap.size < wr.heap.size ∧ bt < wr.heap.size) := Lib.hid ⟨HS.out.1.lt, Nat.lt_of_lt_of_le HBt.out.2 HS.out.2.2⟩
    clear HC HNk HS q4
    generalize wr.heap.size = ub at *
    have HLi := Lib.hid (bList_any W.heap.size T w4 HS4.out.1.tab)
    by_cases hx0 : xk = 0
    case pos =>
      obtain rfl : xk = 0 := hx0
      replace c0 : w4.cell? ⟨bt, ot + k, none⟩ = some (.int .u16 0) := c0
      go_wp2_with (go_at_call 22; refine (HLi.out).mono ?_; rintro e w5 ⟨a5, n5, c5, rfl, hn5, ho5, q5⟩; replace hn5 := Lib.hid hn5; replace ho5 := Lib.hid ho5; replace q5 := Lib.hid q5; refine Hid.out ?_)
      refine Lib.hid ?_
      have HS5 : Hid (BSt W w5 T ∧ NodesAt w5 (some ⟨bt, ot, none⟩) (thereB T) ∧ w3.heap.size ≤ w5.heap.size) := Lib.hid ⟨HS4.out.1.on q5.out, HS4.out.2.1.on q5.out, Nat.le_trans HS4.out.2.2 q5.out.size⟩
      obtain ⟨hM5, hlow5⟩ : Hid (MemsAt w5 a5 (memsB T)) ∧ Hid (∀ q, a5 = some q → w4.heap.size ≤ q.block) := by
        obtain ⟨x, y, e, -, h1, h2⟩ := ho5.out.form
        simp only [Value.slice.injEq] at e
        obtain ⟨rfl, -⟩ := e
        exact ⟨Lib.hid h2, Lib.hid fun q e => (h1 q e).1⟩
      have HMg := Lib.hid (bMerge_any W.heap.size T a5 c5 n5 (memsB T) (fun m hm => (HS5.out.1.ok.fit m hm).1) hn5.out (by have := memsB_len T; omega) w5 HS5.out.1.tab hM5.out (fun _ q e => by have := hlow5.out q e; have := HS4.out.1.lt; omega))
      go_wp2_with (go_at_call 17; refine (HMg.out).mono ?_; rintro e w6 ⟨a6, n6, c6, rfl, -, t6, g6⟩; replace t6 := Lib.hid t6; replace g6 := Lib.hid g6; refine Hid.out ?_)
      refine Lib.hid ?_
      rw [(merge_own HS5.out.1.ok).2] at t6
      have HS6 : Hid (BSt W w6 T ∧ NodesAt w6 (some ⟨bt, ot, none⟩) (thereB T) ∧ w3.heap.size ≤ w6.heap.size) := Lib.hid ⟨HS5.out.1.turn g6.out HS5.out.1.ok t6.out, HS5.out.2.1.skip g6.out (fun q e => by obtain rfl := Option.some.inj e; have := HBt.out.1; simp only; omega), Nat.le_trans HS5.out.2.2 g6.out.size⟩
      have HP := Lib.hid (bPosition_any W.heap.size T HS6.out.1.ok w6 HS6.out.1.tab)
      rw [HPos.out T rfl HTs.out] at HP
      clear HMg hM5 hlow5 t6 g6 HLi HS4 HS5 ho5 q5 c0
      go_wp2_with (go_at_call 24; refine (HP.out).mono ?_; rintro e w7 ⟨rfl, q7⟩; replace q7 := Lib.hid q7; refine Hid.out ?_)
      refine Lib.hid ?_
      have HE : Hid (BSt W w7 T ∧ NodesAt w7 (some ⟨bt, ot, none⟩) (thereB T) ∧ w3.heap.size ≤ w7.heap.size) := Lib.hid ⟨HS6.out.1.on q7.out, HS6.out.2.1.on q7.out, Nat.le_trans HS6.out.2.2 q7.out.size⟩
      clear HS6 q7
      go_wp2
      go_roundw
      case rel => exact ⟨k + 1, by omega, by go_num, HE⟩
      case measure => simp [intOf]; omega
    case neg =>
      have hx1 : ¬ ((xk : Int) = 0) := by omega
      have hx2 : ((xk : Int) == 0) = false := by simpa using hx1
      go_wp2_with (go_at_call 22; refine (HLi.out).mono ?_; rintro e w5 ⟨a5, n5, c5, rfl, hn5, ho5, q5⟩; replace hn5 := Lib.hid hn5; replace ho5 := Lib.hid ho5; replace q5 := Lib.hid q5; refine Hid.out ?_)
      refine Lib.hid ?_
      have HS5 : Hid (BSt W w5 T ∧ NodesAt w5 (some ⟨bt, ot, none⟩) (thereB T) ∧ w3.heap.size ≤ w5.heap.size) := Lib.hid ⟨HS4.out.1.on q5.out, HS4.out.2.1.on q5.out, Nat.le_trans HS4.out.2.2 q5.out.size⟩
      obtain ⟨hM5, hlow5⟩ : Hid (MemsAt w5 a5 (memsB T)) ∧ Hid (∀ q, a5 = some q → w4.heap.size ≤ q.block) := by
        obtain ⟨x, y, e, -, h1, h2⟩ := ho5.out.form
        simp only [Value.slice.injEq] at e
        obtain ⟨rfl, -⟩ := e
        exact ⟨Lib.hid h2, Lib.hid fun q e => (h1 q e).1⟩
      have HMg := Lib.hid (bMerge_any ub (newB xk) a5 c5 n5 (memsB T) (fun m hm => (HS5.out.1.ok.fit m hm).1) hn5.out (by have := memsB_len T; omega) w5 (t4.out.on q5.out) hM5.out (fun _ q e => by have := hlow5.out q e; have := t4.out.lt; omega))
      go_wp2_with (go_at_call 17; refine (HMg.out).mono ?_; rintro e w6 ⟨a6, n6, c6, rfl, -, t6, g6⟩; replace t6 := Lib.hid t6; replace g6 := Lib.hid g6; refine Hid.out ?_)
      refine Lib.hid ?_
      have HU6 := Lib.hid (mergeB_ok HU4.out HS5.out.1.ok.fit)
      have HUs := Lib.hid (show (mergeB (newB xk) (memsB T)).s = xk from mergeB_s _ _)
      have HS6 : Hid (BSt W w6 T ∧ NodesAt w6 (some ⟨bt, ot, none⟩) (thereB T) ∧ w3.heap.size ≤ w6.heap.size) := Lib.hid ⟨HS5.out.1.past g6.out hub.out.1, HS5.out.2.1.skip g6.out (fun q e => by obtain rfl := Option.some.inj e; have := hub.out.2; simp only; omega), Nat.le_trans HS5.out.2.2 g6.out.size⟩
      generalize mergeB (newB xk) (memsB T) = U at *
      have HP := Lib.hid (bPosition_any ub U HU6.out w6 t6.out)
      clear HMg hM5 hlow5 g6 HLi HS4 HS5 ho5 q5 c0 t4
      by_cases hp : posB U = k
      · rw [hp] at HP
        go_wp2_with (go_at_call 24; refine (HP.out).mono ?_; rintro e w7 ⟨rfl, q7⟩; replace q7 := Lib.hid q7; refine Hid.out ?_)
        refine Lib.hid ?_
        have HE : Hid (BSt W w7 T ∧ NodesAt w7 (some ⟨bt, ot, none⟩) (thereB T) ∧ w3.heap.size ≤ w7.heap.size) := Lib.hid ⟨HS6.out.1.on q7.out, HS6.out.2.1.on q7.out, Nat.le_trans HS6.out.2.2 q7.out.size⟩
        clear HS6 q7
        go_wp2
        go_roundw
        case rel => exact ⟨k + 1, by omega, by go_num, HE⟩
        case measure => simp [intOf]; omega
      · have HSm : Hid (sameMs (memsB U) (memsB T) = false) := Lib.hid (by rw [Bool.eq_false_iff]; intro e; exact hp (HPos.out U ((sameMs_iff _ _).1 e) HUs.out))
        generalize posB U = pU at *
        have hp2 : ¬ ((pU : Int) = (k : Int)) := by omega
        have hp3 : ((pU : Int) == (k : Int)) = false := by simpa using hp2
        go_wp2_with (go_at_call 24; refine (HP.out).mono ?_; rintro e w7 ⟨rfl, q7⟩; replace q7 := Lib.hid q7; refine Hid.out ?_)
        refine Lib.hid ?_
        have HS7 : Hid (BSt W w7 T ∧ NodesAt w7 (some ⟨bt, ot, none⟩) (thereB T) ∧ w3.heap.size ≤ w7.heap.size) := Lib.hid ⟨HS6.out.1.on q7.out, HS6.out.2.1.on q7.out, Nat.le_trans HS6.out.2.2 q7.out.size⟩
        have HLu := Lib.hid (bList_any ub U w7 (t6.out.on q7.out))
        clear HP HS6 q7 t6
        go_wp2_with (go_at_call 22; refine (HLu.out).mono ?_; rintro e w8 ⟨a8, n8, c8, rfl, hn8, ho8, q8⟩; replace hn8 := Lib.hid hn8; replace ho8 := Lib.hid ho8; replace q8 := Lib.hid q8; refine Hid.out ?_)
        refine Lib.hid ?_
        have HS8 : Hid (BSt W w8 T ∧ NodesAt w8 (some ⟨bt, ot, none⟩) (thereB T) ∧ w3.heap.size ≤ w8.heap.size) := Lib.hid ⟨HS7.out.1.on q8.out, HS7.out.2.1.on q8.out, Nat.le_trans HS7.out.2.2 q8.out.size⟩
        have HLt := Lib.hid (bList_any W.heap.size T w8 HS8.out.1.tab)
        clear HLu HS7 q8
        go_wp2_with (go_at_call 22; refine (HLt.out).mono ?_; rintro e w9 ⟨a9, n9, c9, rfl, hn9, ho9, q9⟩; replace hn9 := Lib.hid hn9; replace ho9 := Lib.hid ho9; replace q9 := Lib.hid q9; refine Hid.out ?_)
        refine Lib.hid ?_
        have HS9 : Hid (BSt W w9 T ∧ NodesAt w9 (some ⟨bt, ot, none⟩) (thereB T) ∧ w3.heap.size ≤ w9.heap.size) := Lib.hid ⟨HS8.out.1.on q9.out, HS8.out.2.1.on q9.out, Nat.le_trans HS8.out.2.2 q9.out.size⟩
        have HSM := Lib.hid (ySameM_any a8 a9 c8 c9 (memsB U) (memsB T) w9 (ho8.out.on q9.out).mems ho9.out.mems (by have := memsB_len U; omega) n8 n9 hn8.out hn9.out)
        rw [HSm.out] at HSM
        clear HLt HS8 ho8 ho9 q9
        go_wp2_with (go_at_call 25; refine (HSM.out).mono ?_; rintro e wa ⟨rfl, qa⟩; replace qa := Lib.hid qa; refine Hid.out ?_)
        refine Lib.hid ?_
        have HE : Hid (BSt W wa T ∧ NodesAt wa (some ⟨bt, ot, none⟩) (thereB T) ∧ w3.heap.size ≤ wa.heap.size) := Lib.hid ⟨HS9.out.1.on qa.out, HS9.out.2.1.on qa.out, Nat.le_trans HS9.out.2.2 qa.out.size⟩
        clear HS9 qa
        go_wp2
        go_roundw
        case rel => exact ⟨k + 1, by omega, by go_num, HE⟩
        case measure => simp [intOf]; omega
end Go.Proofs.Ytccldbophonloaa
