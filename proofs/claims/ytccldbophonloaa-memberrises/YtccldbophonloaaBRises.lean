/-
  The walk of MemberRises.
-/
import Derived.Test.YtccldbophonloaaBW
namespace Go.Proofs.Ytccldbophonloaa
open Go Go.RowKit


set_option maxRecDepth 100000 in
set_option maxHeartbeats 16000000 in
theorem rises_walk (me : Nat) (a : Option Addr) (c n : Nat) (l : List Mem) (W : World) (hM : MemsAt W a l) (hF : FitM l) (hn : n = l.length) :
    Calls Try.prog 5 #[.int .u16 (me : Int), .slice a n c] W fun e w' => e = .returned (.bool true) ∧ Below W.heap.size W w' := by
  have HAw := Lib.hid (fun u => bawake_any u)
  by_cases h150 : n ≤ 150
  case neg =>
    have hgt : (150 : Int) < (n : Int) := by omega
    go_enter Try.func5, Try.ntmps5
    go_wp2_with (go_at_call 9; refine (HAw.out _).mono ?_; rintro e w1 ⟨rfl, q1⟩; replace q1 := Lib.hid q1; refine Hid.out ?_)
    refine Lib.hid ?_
    go_wp2
    go_ret
    exact ⟨rfl, q1.out⟩
  have hgt : ¬ (150 : Int) < (n : Int) := by omega
  have HN := Lib.hid hn
  have HM := Lib.hid hM
  have HF := Lib.hid hF
  clear hn hM hF
  have HNw := Lib.hid (bNew_any me W)
  have hm64 : me % 64 < 64 := by omega
  go_enter Try.func5, Try.ntmps5
  go_wp2_with (go_at_call 10; refine HNw.out.mono ?_; rintro e w1 ⟨rfl, t1, q1⟩; replace t1 := Lib.hid t1; replace q1 := Lib.hid q1; refine Hid.out ?_)
  refine Lib.hid ?_
  have HS0 : Hid (BSt W w1 (newB (me % 64))) := Lib.hid ⟨newB_ok hm64, t1.out, q1.out⟩
  clear HNw t1 q1
  go_wp2
  go_loopw [6] (fun x wr => ∃ (k : Nat) (T : Tb), k ≤ n ∧ x = .int .i64 (k : Int) ∧ Hid (BSt W wr T)) (fun x _ => n - (intOf x).toNat)
  case atStart => exact ⟨0, _, Nat.zero_le _, rfl, HS0⟩
  case round =>
    clear HS0
    obtain ⟨k, T, hk, rfl, HS⟩ := hrel
    by_cases hlt : k < n
    case neg =>
      have hkl : ¬ (k : Int) < (n : Int) := by omega
      go_wp2_with (go_at_call 9; refine (HAw.out _).mono ?_; rintro e w2 ⟨rfl, q2⟩; replace q2 := Lib.hid q2; refine Hid.out ?_)
      refine Lib.hid ?_
      have HE := Lib.hid (HS.out.on q2.out).below
      go_wp2
      go_ret
      exact ⟨rfl, HE.out⟩
    have hkl : (k : Int) < (n : Int) := by omega
    have hkx : k < l.length := by have := HN.out; omega
    obtain ⟨ba, oa, rfl, hba, HC0⟩ : ∃ ba oa, a = some ⟨ba, oa, none⟩ ∧ ba < W.heap.size ∧ Hid (W.cell? ⟨ba, oa + k * 3, none⟩ = some (.int .u16 l[k].n) ∧ W.cell? ⟨ba, oa + k * 3 + 1, none⟩ = some (.int .u8 l[k].s) ∧ W.cell? ⟨ba, oa + k * 3 + 2, none⟩ = some (.int .i64 l[k].i)) := by
      obtain ⟨ba, oa, e, h1, h2⟩ := HM.out.cells k hkx
      exact ⟨ba, oa, e, h1, Lib.hid h2⟩
    have HFm := Lib.hid (HF.out l[k] (List.getElem_mem hkx))
    generalize l[k] = m at *
    clear hkx
    obtain ⟨mn, ms, mi⟩ := m
    dsimp only at HC0 HFm
    obtain ⟨mk, rfl⟩ : ∃ mk : Nat, mn = (mk : Int) := ⟨mn.toNat, by have := HFm.out.1; omega⟩
    -- the list ahead
    have HLi := Lib.hid (bList_any W.heap.size T wr HS.out.tab)
    go_wp2_with (go_at_call 22; refine HLi.out.mono ?_; rintro e w2 ⟨a7, n7, k7, rfl, hn7, ho7, q2⟩; replace hn7 := Lib.hid hn7; replace ho7 := Lib.hid ho7; replace q2 := Lib.hid q2; refine Hid.out ?_)
    refine Lib.hid ?_
    have HS2 := Lib.hid (HS.out.on q2.out)
    have HCW := Lib.hid (fun (u : World) (hu : Below W.heap.size W u) => And.intro ((hu.cell (p := ⟨ba, oa + k * 3, none⟩) hba).trans HC0.out.1) (And.intro ((hu.cell (p := ⟨ba, oa + k * 3 + 1, none⟩) hba).trans HC0.out.2.1) ((hu.cell (p := ⟨ba, oa + k * 3 + 2, none⟩) hba).trans HC0.out.2.2)))
    obtain ⟨c0, c1, c2⟩ := HCW.out _ HS2.out.below
    have HHe := Lib.hid (bHear_any W.heap.size T ⟨(mk : Int), ms, mi⟩ (by dsimp only; omega) w2 HS2.out.tab)
    dsimp only [HearPost] at HHe
    go_wp2_with (go_at_call 12; refine HHe.out.mono ?_; rintro e w3 ⟨rfl, t3, g3⟩; replace t3 := Lib.hid t3; replace g3 := Lib.hid g3; refine Hid.out ?_)
    refine Lib.hid ?_
    have HS3 := Lib.hid (HS2.out.turn g3.out (hearB_ok HS.out.ok (m := ⟨(mk : Int), ms, mi⟩) (by dsimp only; omega) HFm.out.2) t3.out)
    have hsz : W.heap.size < wr.heap.size := HS.out.tab.lt
    have HW3 : Hid (∃ b7 o7, 0 < (memsB T).length → a7 = some ⟨b7, o7, none⟩ ∧ b7 < w3.heap.size ∧ ∀ i (hi : i < (memsB T).length), RowM6 w3 b7 (o7 + i * 3) (memsB T)[i]) := Lib.hid (by
      have ho3 := (ho7.out.turn g3.out hsz).mems
      by_cases h0 : 0 < (memsB T).length
      · obtain ⟨b7, o7, e7, hb7, hc7⟩ := ho3 h0
        exact ⟨b7, o7, fun _ => ⟨e7, hb7, fun i hi => ⟨hc7 i hi 0 _ rfl, hc7 i hi 1 _ rfl, hc7 i hi 2 _ rfl⟩⟩⟩
      · exact ⟨0, 0, fun h => absurd h h0⟩)
    have HRi := Lib.hid (fun (kk : Nat) (x : Mem) (e : T.f kk = some x) => hearB_rise (T := T) ⟨(mk : Int), ms, mi⟩ e)
    have HHd := Lib.hid (fun (hmay : mayM ⟨(mk : Int), ms, mi⟩ = true) => hearB_heard (T := T) ⟨(mk : Int), ms, mi⟩ hmay)
    have HTok := Lib.hid HS.out.ok
    generalize hT' : hearB T ⟨(mk : Int), ms, mi⟩ = T' at *
    clear hT' ho7 q2 HS HS2 t3 g3 HLi HHe c0 c1 c2
    generalize heardM T ⟨(mk : Int), ms, mi⟩ = dM at *
    generalize newsB T ⟨(mk : Int), ms, mi⟩ = rB at *
    go_wp2
    go_loopw [8] (fun x wr2 => ∃ (j : Nat), j ≤ n7 ∧ x = .int .i64 (j : Int) ∧ Hid (BSt W wr2 T' ∧ Below w3.heap.size w3 wr2)) (fun x _ => n7 - (intOf x).toNat)
    case atStart => exact ⟨0, Nat.zero_le _, rfl, Lib.hid ⟨HS3.out, Below.refl _ _⟩⟩
    case round =>
      clear HS3
      obtain ⟨j, hj, rfl, HJ⟩ := hrel
      have hn64 : n7 ≤ 64 := by have := hn7.out; have := memsB_len T; omega
      by_cases hjl : j < n7
      case pos =>
        have hjl2 : (j : Int) < (n7 : Int) := by omega
        obtain ⟨hjx⟩ : Nonempty (j < (memsB T).length) := ⟨by have := hn7.out; omega⟩
        obtain ⟨b7, o7, hW3⟩ := HW3.out
        obtain ⟨rfl, hb7, hc7⟩ := hW3 (by omega)
        have hrow := hc7 j hjx
        have hxf := (mem_memsB HTok.out).1 (List.getElem_mem hjx)
        have hxn := (HTok.out.ok _ _ hxf).1
        obtain ⟨y, hyf, hya⟩ := HRi.out _ _ hxf
        have hx64 := HTok.out.lt hxf
        generalize (memsB T)[j] = x at *
        clear hW3 hc7 hjx hxf
        obtain ⟨xn, xs, xi⟩ := x
        dsimp only at hxn hyf hx64
        obtain ⟨xk, rfl⟩ : ∃ xk : Nat, xn = (xk : Int) := ⟨xn.toNat, hxn⟩
        rw [Int.toNat_natCast] at hyf hx64
        clear hxn
        have HRow := Lib.hid hrow
        have HB7 := Lib.hid hb7
        have HCQ : Hid (∀ u, Below w3.heap.size w3 u → RowM6 u b7 (o7 + j * 3) ⟨(xk : Int), xs, xi⟩) := Lib.hid (fun u hu => ⟨(hu.cell (p := ⟨b7, o7 + j * 3, none⟩) HB7.out).trans HRow.out.1, (hu.cell (p := ⟨b7, o7 + j * 3 + 1, none⟩) HB7.out).trans HRow.out.2.1, (hu.cell (p := ⟨b7, o7 + j * 3 + 2, none⟩) HB7.out).trans HRow.out.2.2⟩)
        have c0 := (HCQ.out _ HJ.out.2).1
        dsimp only at c0
        obtain ⟨yn, ys, yi⟩ := y
        have HGe := Lib.hid (bGet_any W.heap.size T' xk wr HJ.out.1.tab ⟨yn, ys, yi⟩ true (getR_in hx64 hyf))
        dsimp only at HGe
        have HAb := Lib.hid (fun u => bAbove_any ⟨(xk : Int), xs, xi⟩ ⟨yn, ys, yi⟩ u)
        rw [hya] at HAb
        dsimp only at HAb
        clear hrow hb7 hyf hya hx64
        go_wp2_with (go_at_call 20; refine HGe.out.mono ?_; rintro e w5 ⟨rfl, q5⟩; replace q5 := Lib.hid q5; refine Hid.out ?_)
        refine Lib.hid ?_
        have HJ5 := Lib.hid (And.intro ((HJ.out.1.on q5.out).alloc (.cells #[.int .u16 yn, .int .u8 ys, .int .i64 yi] 32)) ((HJ.out.2.trans (q5.out.mono HJ.out.2.size)).alloc (Nat.le_trans HJ.out.2.size q5.out.size) (.cells #[.int .u16 yn, .int .u8 ys, .int .i64 yi] 32)))
        have HY5 : Hid (Mb (w5.alloc (.cells #[.int .u16 yn, .int .u8 ys, .int .i64 yi] 32)) w5.heap.size ⟨yn, ys, yi⟩) := Lib.hid (Mb.new w5 ⟨yn, ys, yi⟩)
        clear HGe HJ q5 c0
        go_wp2_with fail
        generalize hwb : w5.alloc (.cells #[.int .u16 yn, .int .u8 ys, .int .i64 yi] 32) = wb at *
        generalize w5.heap.size = b9 at *
        clear hwb
        have HC : Hid (∀ u, Below wb.heap.size wb u → RowM6 u b7 (o7 + j * 3) ⟨(xk : Int), xs, xi⟩ ∧ Mb u b9 ⟨yn, ys, yi⟩) := Lib.hid (fun u hu => ⟨HCQ.out u (HJ5.out.2.trans (hu.mono HJ5.out.2.size)), HY5.out.on hu⟩)
        clear HY5 HCQ HRow HB7
        refine wp_region_any (by kernel_rfl) ?_
        change wpAny _ _ _ _ _ _ _ (World.drew _)
        have hS : (fun w' : World => Below wb.heap.size wb w') wb.drew := (Below.refl _ wb).drew
        refine wpAny_of_held (S := fun w' => Below wb.heap.size wb w') _ _ _ _ ?_
        refine wpAnyH_takeE (i := 0) (some 50) (v := ?_) rfl rfl (by as_aux_lemma => kernel_rfl) (by as_aux_lemma => kernel_rfl) (by as_aux_lemma => kernel_rfl) (fun _ _ _ h => h) (Or.inl ⟨by kernel_rfl, ?_⟩) hS ?_
        rotate_left
        · intro w hSw; have y0 := HC.out _ hSw; obtain ⟨a0, a1, a2⟩ := y0.1; have e0 := y0.2.c0; have e1 := y0.2.c1; have e2 := y0.2.c2; clear y0; go_simp
          first | done | with_reducible rfl
        refine wpAnyH_takeE (i := 1) (some 51) (v := ?_) rfl rfl (by as_aux_lemma => kernel_rfl) (by as_aux_lemma => kernel_rfl) (by as_aux_lemma => kernel_rfl) (fun _ _ _ h => h) (Or.inl ⟨by kernel_rfl, ?_⟩) hS ?_
        rotate_left
        · intro w hSw; have y0 := HC.out _ hSw; obtain ⟨a0, a1, a2⟩ := y0.1; have e0 := y0.2.c0; have e1 := y0.2.c1; have e2 := y0.2.c2; clear y0; go_simp
          first | done | with_reducible rfl
        refine wpAnyH_takeE (i := 2) (some 52) (v := ?_) rfl rfl (by as_aux_lemma => kernel_rfl) (by as_aux_lemma => kernel_rfl) (by as_aux_lemma => kernel_rfl) (fun _ _ _ h => h) (Or.inl ⟨by kernel_rfl, ?_⟩) hS ?_
        rotate_left
        · intro w hSw; have y0 := HC.out _ hSw; obtain ⟨a0, a1, a2⟩ := y0.1; have e0 := y0.2.c0; have e1 := y0.2.c1; have e2 := y0.2.c2; clear y0; go_simp
          first | done | with_reducible rfl
        refine wpAnyH_takeE (i := 3) (some 53) (v := ?_) rfl rfl (by as_aux_lemma => kernel_rfl) (by as_aux_lemma => kernel_rfl) (by as_aux_lemma => kernel_rfl) (fun _ _ _ h => h) (Or.inl ⟨by kernel_rfl, ?_⟩) hS ?_
        rotate_left
        · intro w hSw; have y0 := HC.out _ hSw; obtain ⟨a0, a1, a2⟩ := y0.1; have e0 := y0.2.c0; have e1 := y0.2.c1; have e2 := y0.2.c2; clear y0; go_simp
          first | done | with_reducible rfl
        refine wpAnyH_takeE (i := 4) (some 54) (v := ?_) rfl rfl (by as_aux_lemma => kernel_rfl) (by as_aux_lemma => kernel_rfl) (by as_aux_lemma => kernel_rfl) (fun _ _ _ h => h) (Or.inl ⟨by kernel_rfl, ?_⟩) hS ?_
        rotate_left
        · intro w hSw; have y0 := HC.out _ hSw; obtain ⟨a0, a1, a2⟩ := y0.1; have e0 := y0.2.c0; have e1 := y0.2.c1; have e2 := y0.2.c2; clear y0; go_simp
          first | done | with_reducible rfl
        refine wpAnyH_takeE (i := 5) (some 55) (v := ?_) rfl rfl (by as_aux_lemma => kernel_rfl) (by as_aux_lemma => kernel_rfl) (by as_aux_lemma => kernel_rfl) (fun _ _ _ h => h) (Or.inl ⟨by kernel_rfl, ?_⟩) hS ?_
        rotate_left
        · intro w hSw; have y0 := HC.out _ hSw; obtain ⟨a0, a1, a2⟩ := y0.1; have e0 := y0.2.c0; have e1 := y0.2.c1; have e2 := y0.2.c2; clear y0; go_simp
          first | done | with_reducible rfl
        refine wpAnyH_takeE (i := 6) (some 56) (v := ?_) rfl rfl (by as_aux_lemma => kernel_rfl) (by as_aux_lemma => kernel_rfl) (by as_aux_lemma => kernel_rfl) (fun _ _ _ h => h) (Or.inl ⟨by kernel_rfl, ?_⟩) hS ?_
        rotate_left
        · intro w hSw; have y0 := HC.out _ hSw; obtain ⟨a0, a1, a2⟩ := y0.1; have e0 := y0.2.c0; have e1 := y0.2.c1; have e2 := y0.2.c2; clear y0; go_simp
          first | done | with_reducible rfl
        refine wpAnyH_takeE (i := 7) (some 57) (v := ?_) rfl rfl (by as_aux_lemma => kernel_rfl) (by as_aux_lemma => kernel_rfl) (by as_aux_lemma => kernel_rfl) (fun _ _ _ h => h) (Or.inl ⟨by kernel_rfl, ?_⟩) hS ?_
        rotate_left
        · intro w hSw; have y0 := HC.out _ hSw; obtain ⟨a0, a1, a2⟩ := y0.1; have e0 := y0.2.c0; have e1 := y0.2.c1; have e2 := y0.2.c2; clear y0; go_simp
          first | done | with_reducible rfl
        refine wpAnyH_ready (rs := [8]) (by as_aux_lemma => kernel_rfl) (by simp) ?_
        refine AllReadyH.cons rfl (fun K hK => ?_) AllReadyH.nil
        go_simp
        go_wp2_with (go_at_call 15; refine (HAb.out _).mono ?_; rintro e v1 ⟨rfl, q1⟩)
        refine hK.out _ _ ?_ (fun hS => ?_)
        · exact hS.trans (q1.mono hS.size)
        clear hK K
        refine wpAnyH_takeE (i := 9) (some 59) (v := ?_) rfl rfl (by as_aux_lemma => kernel_rfl) (by as_aux_lemma => kernel_rfl) (by as_aux_lemma => kernel_rfl) (fun _ _ _ h => h) (Or.inl ⟨by kernel_rfl, ?_⟩) hS ?_
        rotate_left
        · intro w hSw; have y0 := HC.out _ hSw; obtain ⟨a0, a1, a2⟩ := y0.1; have e0 := y0.2.c0; have e1 := y0.2.c1; have e2 := y0.2.c2; clear y0; go_simp
          first | done | with_reducible rfl
        refine wpAnyH_done (by kernel_rfl) ?_ _
        have HE : Hid (BSt W v1 T' ∧ Below w3.heap.size w3 v1) := Lib.hid ⟨HJ5.out.1.on hS, HJ5.out.2.trans (hS.mono HJ5.out.2.size)⟩
        clear HJ5 hS q1 HC HAb
        go_simp
        go_wp2
        go_roundw
        case rel => exact ⟨j + 1, by omega, by go_num, HE⟩
        case measure => simp [intOf]; omega
      case neg =>
        have hjl2 : ¬ (j : Int) < (n7 : Int) := by omega
        have HS4 := Lib.hid HJ.out.1
        clear HJ HRi HW3 hn7 HTok
        obtain ⟨c0, c1, c2⟩ := HCW.out _ HS4.out.below
        obtain ⟨g, gb, hg⟩ : ∃ g gb, getR T' mk = (g, gb) := ⟨_, _, rfl⟩
        have HGr : Hid (mayM ⟨(mk : Int), ms, mi⟩ = true → gb = true ∧ aboveM ⟨(mk : Int), ms, mi⟩ g = false) := Lib.hid (fun hmay => by
          obtain ⟨x, hx1, hx2⟩ := HHd.out hmay
          try dsimp only at hx1
          try rw [Int.toNat_natCast] at hx1
          have := getR_in (HS4.out.ok.lt hx1) hx1
          rw [this] at hg
          cases hg
          exact ⟨rfl, hx2⟩)
        obtain ⟨gn, gs, gi⟩ := g
        have HGe := Lib.hid (bGet_any W.heap.size T' mk wr HS4.out.tab ⟨gn, gs, gi⟩ gb hg)
        dsimp only at HGe
        clear hg HHd
        go_wp2_with (go_at_call 20; refine HGe.out.mono ?_; rintro e w5 ⟨rfl, q5⟩; replace q5 := Lib.hid q5; refine Hid.out ?_)
        refine Lib.hid ?_
        have HS5 := Lib.hid ((HS4.out.on q5.out).alloc (.cells #[.int .u16 gn, .int .u8 gs, .int .i64 gi] 32))
        have HY5 : Hid (Mb (w5.alloc (.cells #[.int .u16 gn, .int .u8 gs, .int .i64 gi] 32)) w5.heap.size ⟨gn, gs, gi⟩) := Lib.hid (Mb.new w5 ⟨gn, gs, gi⟩)
        clear HGe HS4 q5 c0 c1 c2
        go_wp2_with fail
        generalize hwb : w5.alloc (.cells #[.int .u16 gn, .int .u8 gs, .int .i64 gi] 32) = wb at *
        generalize w5.heap.size = b11 at *
        clear hwb
        have HC : Hid (∀ u, Below wb.heap.size wb u → RowM6 u ba (oa + k * 3) ⟨(mk : Int), ms, mi⟩ ∧ Mb u b11 ⟨gn, gs, gi⟩) := Lib.hid (fun u hu => ⟨HCW.out u (HS5.out.on hu).below, HY5.out.on hu⟩)
        have HMy := Lib.hid (fun u => brMay_any ⟨(mk : Int), ms, mi⟩ u)
        have HAb := Lib.hid (fun u => bAbove_any ⟨(mk : Int), ms, mi⟩ ⟨gn, gs, gi⟩ u)
        dsimp only at HMy HAb
        clear HY5
        cases hmay : mayM ⟨(mk : Int), ms, mi⟩ with
        | true =>
          rw [hmay] at HMy
          obtain ⟨rfl, hga⟩ := HGr.out hmay
          rw [hga] at HAb
          clear hga hmay HGr
          refine wp_region_any (by kernel_rfl) ?_
          change wpAny _ _ _ _ _ _ _ (World.drew _)
          have hS : (fun w' : World => Below wb.heap.size wb w') wb.drew := (Below.refl _ wb).drew
          refine wpAny_of_held (S := fun w' => Below wb.heap.size wb w') _ _ _ _ ?_
          refine wpAnyH_takeE (i := 0) (some 70) (v := ?_) rfl rfl (by as_aux_lemma => kernel_rfl) (by as_aux_lemma => kernel_rfl) (by as_aux_lemma => kernel_rfl) (fun _ _ _ h => h) (Or.inl ⟨by kernel_rfl, ?_⟩) hS ?_
          rotate_left
          · intro w hSw; have y0 := HC.out _ hSw; obtain ⟨a0, a1, a2⟩ := y0.1; have e0 := y0.2.c0; have e1 := y0.2.c1; have e2 := y0.2.c2; clear y0; go_simp
            first | done | with_reducible rfl
          refine wpAnyH_takeE (i := 1) (some 71) (v := ?_) rfl rfl (by as_aux_lemma => kernel_rfl) (by as_aux_lemma => kernel_rfl) (by as_aux_lemma => kernel_rfl) (fun _ _ _ h => h) (Or.inl ⟨by kernel_rfl, ?_⟩) hS ?_
          rotate_left
          · intro w hSw; have y0 := HC.out _ hSw; obtain ⟨a0, a1, a2⟩ := y0.1; have e0 := y0.2.c0; have e1 := y0.2.c1; have e2 := y0.2.c2; clear y0; go_simp
            first | done | with_reducible rfl
          refine wpAnyH_takeE (i := 2) (some 72) (v := ?_) rfl rfl (by as_aux_lemma => kernel_rfl) (by as_aux_lemma => kernel_rfl) (by as_aux_lemma => kernel_rfl) (fun _ _ _ h => h) (Or.inl ⟨by kernel_rfl, ?_⟩) hS ?_
          rotate_left
          · intro w hSw; have y0 := HC.out _ hSw; obtain ⟨a0, a1, a2⟩ := y0.1; have e0 := y0.2.c0; have e1 := y0.2.c1; have e2 := y0.2.c2; clear y0; go_simp
            first | done | with_reducible rfl
          refine wpAnyH_takeE (i := 3) (some 73) (v := ?_) rfl rfl (by as_aux_lemma => kernel_rfl) (by as_aux_lemma => kernel_rfl) (by as_aux_lemma => kernel_rfl) (fun _ _ _ h => h) (Or.inl ⟨by kernel_rfl, ?_⟩) hS ?_
          rotate_left
          · intro w hSw; have y0 := HC.out _ hSw; obtain ⟨a0, a1, a2⟩ := y0.1; have e0 := y0.2.c0; have e1 := y0.2.c1; have e2 := y0.2.c2; clear y0; go_simp
            first | done | with_reducible rfl
          refine wpAnyH_ready (rs := [4]) (by as_aux_lemma => kernel_rfl) (by simp) ?_
          refine AllReadyH.cons rfl (fun K hK => ?_) AllReadyH.nil
          go_simp
          go_wp2_with (go_at_call 26; refine (HMy.out _).mono ?_; rintro e v1 ⟨rfl, q1⟩)
          refine hK.out _ _ ?_ (fun hS => ?_)
          · exact hS.trans (q1.mono hS.size)
          clear hK K
          refine wpAnyH_takeE (i := 5) (some 75) (v := ?_) rfl rfl (by as_aux_lemma => kernel_rfl) (by as_aux_lemma => kernel_rfl) (by as_aux_lemma => kernel_rfl) (fun _ _ _ h => h) (Or.inl ⟨by kernel_rfl, ?_⟩) hS ?_
          rotate_left
          · intro w hSw; have y0 := HC.out _ hSw; obtain ⟨a0, a1, a2⟩ := y0.1; have e0 := y0.2.c0; have e1 := y0.2.c1; have e2 := y0.2.c2; clear y0; go_simp
            first | done | with_reducible rfl
          refine wpAnyH_takeE (i := 6) (some 76) (v := ?_) rfl rfl (by as_aux_lemma => kernel_rfl) (by as_aux_lemma => kernel_rfl) (by as_aux_lemma => kernel_rfl) (fun _ _ _ h => h) (Or.inl ⟨by kernel_rfl, ?_⟩) hS ?_
          rotate_left
          · intro w hSw; have y0 := HC.out _ hSw; obtain ⟨a0, a1, a2⟩ := y0.1; have e0 := y0.2.c0; have e1 := y0.2.c1; have e2 := y0.2.c2; clear y0; go_simp
            first | done | with_reducible rfl
          refine wpAnyH_takeE (i := 7) (some 77) (v := ?_) rfl rfl (by as_aux_lemma => kernel_rfl) (by as_aux_lemma => kernel_rfl) (by as_aux_lemma => kernel_rfl) (fun _ _ _ h => h) (Or.inl ⟨by kernel_rfl, ?_⟩) hS ?_
          rotate_left
          · intro w hSw; have y0 := HC.out _ hSw; obtain ⟨a0, a1, a2⟩ := y0.1; have e0 := y0.2.c0; have e1 := y0.2.c1; have e2 := y0.2.c2; clear y0; go_simp
            first | done | with_reducible rfl
          refine wpAnyH_takeE (i := 8) (some 78) (v := ?_) rfl rfl (by as_aux_lemma => kernel_rfl) (by as_aux_lemma => kernel_rfl) (by as_aux_lemma => kernel_rfl) (fun _ _ _ h => h) (Or.inl ⟨by kernel_rfl, ?_⟩) hS ?_
          rotate_left
          · intro w hSw; have y0 := HC.out _ hSw; obtain ⟨a0, a1, a2⟩ := y0.1; have e0 := y0.2.c0; have e1 := y0.2.c1; have e2 := y0.2.c2; clear y0; go_simp
            first | done | with_reducible rfl
          refine wpAnyH_takeE (i := 9) (some 79) (v := ?_) rfl rfl (by as_aux_lemma => kernel_rfl) (by as_aux_lemma => kernel_rfl) (by as_aux_lemma => kernel_rfl) (fun _ _ _ h => h) (Or.inl ⟨by kernel_rfl, ?_⟩) hS ?_
          rotate_left
          · intro w hSw; have y0 := HC.out _ hSw; obtain ⟨a0, a1, a2⟩ := y0.1; have e0 := y0.2.c0; have e1 := y0.2.c1; have e2 := y0.2.c2; clear y0; go_simp
            first | done | with_reducible rfl
          refine wpAnyH_takeE (i := 10) (some 80) (v := ?_) rfl rfl (by as_aux_lemma => kernel_rfl) (by as_aux_lemma => kernel_rfl) (by as_aux_lemma => kernel_rfl) (fun _ _ _ h => h) (Or.inl ⟨by kernel_rfl, ?_⟩) hS ?_
          rotate_left
          · intro w hSw; have y0 := HC.out _ hSw; obtain ⟨a0, a1, a2⟩ := y0.1; have e0 := y0.2.c0; have e1 := y0.2.c1; have e2 := y0.2.c2; clear y0; go_simp
            first | done | with_reducible rfl
          refine wpAnyH_takeE (i := 11) (some 81) (v := ?_) rfl rfl (by as_aux_lemma => kernel_rfl) (by as_aux_lemma => kernel_rfl) (by as_aux_lemma => kernel_rfl) (fun _ _ _ h => h) (Or.inl ⟨by kernel_rfl, ?_⟩) hS ?_
          rotate_left
          · intro w hSw; have y0 := HC.out _ hSw; obtain ⟨a0, a1, a2⟩ := y0.1; have e0 := y0.2.c0; have e1 := y0.2.c1; have e2 := y0.2.c2; clear y0; go_simp
            first | done | with_reducible rfl
          refine wpAnyH_takeE (i := 12) (some 82) (v := ?_) rfl rfl (by as_aux_lemma => kernel_rfl) (by as_aux_lemma => kernel_rfl) (by as_aux_lemma => kernel_rfl) (fun _ _ _ h => h) (Or.inl ⟨by kernel_rfl, ?_⟩) hS ?_
          rotate_left
          · intro w hSw; have y0 := HC.out _ hSw; obtain ⟨a0, a1, a2⟩ := y0.1; have e0 := y0.2.c0; have e1 := y0.2.c1; have e2 := y0.2.c2; clear y0; go_simp
            first | done | with_reducible rfl
          refine wpAnyH_takeE (i := 13) (some 83) (v := ?_) rfl rfl (by as_aux_lemma => kernel_rfl) (by as_aux_lemma => kernel_rfl) (by as_aux_lemma => kernel_rfl) (fun _ _ _ h => h) (Or.inl ⟨by kernel_rfl, ?_⟩) hS ?_
          rotate_left
          · intro w hSw; have y0 := HC.out _ hSw; obtain ⟨a0, a1, a2⟩ := y0.1; have e0 := y0.2.c0; have e1 := y0.2.c1; have e2 := y0.2.c2; clear y0; go_simp
            first | done | with_reducible rfl
          refine wpAnyH_ready (rs := [14]) (by as_aux_lemma => kernel_rfl) (by simp) ?_
          refine AllReadyH.cons rfl (fun K hK => ?_) AllReadyH.nil
          go_simp
          go_wp2_with (go_at_call 15; refine (HAb.out _).mono ?_; rintro e v2 ⟨rfl, q2⟩)
          refine hK.out _ _ ?_ (fun hS => ?_)
          · exact hS.trans (q2.mono hS.size)
          clear hK K
          refine wpAnyH_takeE (i := 15) (some 85) (v := ?_) rfl rfl (by as_aux_lemma => kernel_rfl) (by as_aux_lemma => kernel_rfl) (by as_aux_lemma => kernel_rfl) (fun _ _ _ h => h) (Or.inl ⟨by kernel_rfl, ?_⟩) hS ?_
          rotate_left
          · intro w hSw; have y0 := HC.out _ hSw; obtain ⟨a0, a1, a2⟩ := y0.1; have e0 := y0.2.c0; have e1 := y0.2.c1; have e2 := y0.2.c2; clear y0; go_simp
            first | done | with_reducible rfl
          refine wpAnyH_takeE (i := 16) (some 86) (v := ?_) rfl rfl (by as_aux_lemma => kernel_rfl) (by as_aux_lemma => kernel_rfl) (by as_aux_lemma => kernel_rfl) (fun _ _ _ h => h) (Or.inl ⟨by kernel_rfl, ?_⟩) hS ?_
          rotate_left
          · intro w hSw; have y0 := HC.out _ hSw; obtain ⟨a0, a1, a2⟩ := y0.1; have e0 := y0.2.c0; have e1 := y0.2.c1; have e2 := y0.2.c2; clear y0; go_simp
            first | done | with_reducible rfl
          refine wpAnyH_done (by kernel_rfl) ?_ _
          have HS6 := Lib.hid (HS5.out.on hS)
          clear HS5 hS q1 q2 HC HAb HMy
          go_simp
          obtain ⟨x, hxf⟩ := HS6.out.ok.me
          have HAl := Lib.hid (HS6.out.ok.al x hxf)
          have HSe := Lib.hid (bSelf_any W.heap.size T' x T'.s rfl HS6.out.ok.s hxf v2 HS6.out.tab)
          clear hxf
          obtain ⟨xn, xs, xi⟩ := x
          dsimp only at HSe HAl
          go_wp2_with (go_at_call 21; refine HSe.out.mono ?_; rintro e w6 ⟨rfl, q6⟩; replace q6 := Lib.hid q6; refine Hid.out ?_)
          refine Lib.hid ?_
          have HS7 : Hid (BSt W (w6.alloc (.cells #[.int .u16 xn, .int .u8 xs, .int .i64 xi] 32)) T') := Lib.hid ((HS6.out.on q6.out).alloc _)
          clear HSe HS6 q6
          by_cases hx0 : xs = 0
          · subst hx0
            go_wp2
            go_roundw
            case rel => exact ⟨k + 1, _, by omega, by go_num, HS7⟩
            case measure => simp [intOf]; omega
          · have hx1 : (xs == 0) = false := by simpa using hx0
            obtain rfl : xi = 1073741824 := HAl.out.resolve_left hx0
            go_wp2
            go_roundw
            case rel => exact ⟨k + 1, _, by omega, by go_num, HS7⟩
            case measure => simp [intOf]; omega
        | false =>
          rw [hmay] at HMy
          clear hmay HGr
          refine wp_region_any (by kernel_rfl) ?_
          change wpAny _ _ _ _ _ _ _ (World.drew _)
          have hS : (fun w' : World => Below wb.heap.size wb w') wb.drew := (Below.refl _ wb).drew
          refine wpAny_of_held (S := fun w' => Below wb.heap.size wb w') _ _ _ _ ?_
          refine wpAnyH_takeE (i := 0) (some 70) (v := ?_) rfl rfl (by as_aux_lemma => kernel_rfl) (by as_aux_lemma => kernel_rfl) (by as_aux_lemma => kernel_rfl) (fun _ _ _ h => h) (Or.inl ⟨by kernel_rfl, ?_⟩) hS ?_
          rotate_left
          · intro w hSw; have y0 := HC.out _ hSw; obtain ⟨a0, a1, a2⟩ := y0.1; have e0 := y0.2.c0; have e1 := y0.2.c1; have e2 := y0.2.c2; clear y0; go_simp
            first | done | with_reducible rfl
          refine wpAnyH_takeE (i := 1) (some 71) (v := ?_) rfl rfl (by as_aux_lemma => kernel_rfl) (by as_aux_lemma => kernel_rfl) (by as_aux_lemma => kernel_rfl) (fun _ _ _ h => h) (Or.inl ⟨by kernel_rfl, ?_⟩) hS ?_
          rotate_left
          · intro w hSw; have y0 := HC.out _ hSw; obtain ⟨a0, a1, a2⟩ := y0.1; have e0 := y0.2.c0; have e1 := y0.2.c1; have e2 := y0.2.c2; clear y0; go_simp
            first | done | with_reducible rfl
          refine wpAnyH_takeE (i := 2) (some 72) (v := ?_) rfl rfl (by as_aux_lemma => kernel_rfl) (by as_aux_lemma => kernel_rfl) (by as_aux_lemma => kernel_rfl) (fun _ _ _ h => h) (Or.inl ⟨by kernel_rfl, ?_⟩) hS ?_
          rotate_left
          · intro w hSw; have y0 := HC.out _ hSw; obtain ⟨a0, a1, a2⟩ := y0.1; have e0 := y0.2.c0; have e1 := y0.2.c1; have e2 := y0.2.c2; clear y0; go_simp
            first | done | with_reducible rfl
          refine wpAnyH_takeE (i := 3) (some 73) (v := ?_) rfl rfl (by as_aux_lemma => kernel_rfl) (by as_aux_lemma => kernel_rfl) (by as_aux_lemma => kernel_rfl) (fun _ _ _ h => h) (Or.inl ⟨by kernel_rfl, ?_⟩) hS ?_
          rotate_left
          · intro w hSw; have y0 := HC.out _ hSw; obtain ⟨a0, a1, a2⟩ := y0.1; have e0 := y0.2.c0; have e1 := y0.2.c1; have e2 := y0.2.c2; clear y0; go_simp
            first | done | with_reducible rfl
          refine wpAnyH_ready (rs := [4]) (by as_aux_lemma => kernel_rfl) (by simp) ?_
          refine AllReadyH.cons rfl (fun K hK => ?_) AllReadyH.nil
          go_simp
          go_wp2_with (go_at_call 26; refine (HMy.out _).mono ?_; rintro e v1 ⟨rfl, q1⟩)
          refine hK.out _ _ ?_ (fun hS => ?_)
          · exact hS.trans (q1.mono hS.size)
          clear hK K
          refine wpAnyH_takeE (i := 5) (some 75) (v := ?_) rfl rfl (by as_aux_lemma => kernel_rfl) (by as_aux_lemma => kernel_rfl) (by as_aux_lemma => kernel_rfl) (fun _ _ _ h => h) (Or.inl ⟨by kernel_rfl, ?_⟩) hS ?_
          rotate_left
          · intro w hSw; have y0 := HC.out _ hSw; obtain ⟨a0, a1, a2⟩ := y0.1; have e0 := y0.2.c0; have e1 := y0.2.c1; have e2 := y0.2.c2; clear y0; go_simp
            first | done | with_reducible rfl
          refine wpAnyH_takeE (i := 6) (some 76) (v := undef) rfl rfl (by as_aux_lemma => kernel_rfl) (by as_aux_lemma => kernel_rfl) (by as_aux_lemma => kernel_rfl) (fun _ _ _ h => h) (Or.inr ⟨by kernel_rfl, rfl⟩) hS ?_
          refine wpAnyH_takeE (i := 7) (some 77) (v := undef) rfl rfl (by as_aux_lemma => kernel_rfl) (by as_aux_lemma => kernel_rfl) (by as_aux_lemma => kernel_rfl) (fun _ _ _ h => h) (Or.inr ⟨by kernel_rfl, rfl⟩) hS ?_
          refine wpAnyH_takeE (i := 8) (some 78) (v := undef) rfl rfl (by as_aux_lemma => kernel_rfl) (by as_aux_lemma => kernel_rfl) (by as_aux_lemma => kernel_rfl) (fun _ _ _ h => h) (Or.inr ⟨by kernel_rfl, rfl⟩) hS ?_
          refine wpAnyH_takeE (i := 9) (some 79) (v := undef) rfl rfl (by as_aux_lemma => kernel_rfl) (by as_aux_lemma => kernel_rfl) (by as_aux_lemma => kernel_rfl) (fun _ _ _ h => h) (Or.inr ⟨by kernel_rfl, rfl⟩) hS ?_
          refine wpAnyH_takeE (i := 10) (some 80) (v := undef) rfl rfl (by as_aux_lemma => kernel_rfl) (by as_aux_lemma => kernel_rfl) (by as_aux_lemma => kernel_rfl) (fun _ _ _ h => h) (Or.inr ⟨by kernel_rfl, rfl⟩) hS ?_
          refine wpAnyH_takeE (i := 11) (some 81) (v := undef) rfl rfl (by as_aux_lemma => kernel_rfl) (by as_aux_lemma => kernel_rfl) (by as_aux_lemma => kernel_rfl) (fun _ _ _ h => h) (Or.inr ⟨by kernel_rfl, rfl⟩) hS ?_
          refine wpAnyH_takeE (i := 12) (some 82) (v := undef) rfl rfl (by as_aux_lemma => kernel_rfl) (by as_aux_lemma => kernel_rfl) (by as_aux_lemma => kernel_rfl) (fun _ _ _ h => h) (Or.inr ⟨by kernel_rfl, rfl⟩) hS ?_
          refine wpAnyH_takeE (i := 13) (some 83) (v := undef) rfl rfl (by as_aux_lemma => kernel_rfl) (by as_aux_lemma => kernel_rfl) (by as_aux_lemma => kernel_rfl) (fun _ _ _ h => h) (Or.inr ⟨by kernel_rfl, rfl⟩) hS ?_
          refine wpAnyH_takeE (i := 14) (some 84) (v := undef) rfl rfl (by as_aux_lemma => kernel_rfl) (by as_aux_lemma => kernel_rfl) (by as_aux_lemma => kernel_rfl) (fun _ _ _ h => h) (Or.inr ⟨by kernel_rfl, rfl⟩) hS ?_
          refine wpAnyH_takeE (i := 15) (some 85) (v := undef) rfl rfl (by as_aux_lemma => kernel_rfl) (by as_aux_lemma => kernel_rfl) (by as_aux_lemma => kernel_rfl) (fun _ _ _ h => h) (Or.inr ⟨by kernel_rfl, rfl⟩) hS ?_
          refine wpAnyH_takeE (i := 16) (some 86) (v := ?_) rfl rfl (by as_aux_lemma => kernel_rfl) (by as_aux_lemma => kernel_rfl) (by as_aux_lemma => kernel_rfl) (fun _ _ _ h => h) (Or.inl ⟨by kernel_rfl, ?_⟩) hS ?_
          rotate_left
          · intro w hSw; have y0 := HC.out _ hSw; obtain ⟨a0, a1, a2⟩ := y0.1; have e0 := y0.2.c0; have e1 := y0.2.c1; have e2 := y0.2.c2; clear y0; go_simp
            first | done | with_reducible rfl
          refine wpAnyH_done (by kernel_rfl) ?_ _
          have HS6 := Lib.hid (HS5.out.on hS)
          clear HS5 hS q1  HC HAb HMy
          go_simp
          obtain ⟨x, hxf⟩ := HS6.out.ok.me
          have HAl := Lib.hid (HS6.out.ok.al x hxf)
          have HSe := Lib.hid (bSelf_any W.heap.size T' x T'.s rfl HS6.out.ok.s hxf v1 HS6.out.tab)
          clear hxf
          obtain ⟨xn, xs, xi⟩ := x
          dsimp only at HSe HAl
          go_wp2_with (go_at_call 21; refine HSe.out.mono ?_; rintro e w6 ⟨rfl, q6⟩; replace q6 := Lib.hid q6; refine Hid.out ?_)
          refine Lib.hid ?_
          have HS7 : Hid (BSt W (w6.alloc (.cells #[.int .u16 xn, .int .u8 xs, .int .i64 xi] 32)) T') := Lib.hid ((HS6.out.on q6.out).alloc _)
          clear HSe HS6 q6
          by_cases hx0 : xs = 0
          · subst hx0
            go_wp2
            go_roundw
            case rel => exact ⟨k + 1, _, by omega, by go_num, HS7⟩
            case measure => simp [intOf]; omega
          · have hx1 : (xs == 0) = false := by simpa using hx0
            obtain rfl : xi = 1073741824 := HAl.out.resolve_left hx0
            go_wp2
            go_roundw
            case rel => exact ⟨k + 1, _, by omega, by go_num, HS7⟩
            case measure => simp [intOf]; omega

end Go.Proofs.Ytccldbophonloaa
