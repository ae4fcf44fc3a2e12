/-
  Check, value and Entry of the reference of layer 11.
-/
import Derived.Test.YtcngifkoopcmeaaGreatDoorK26
import Derived.Test.YtcngifkoopcmeaaGreatDoorK36
import Derived.Test.YtcngifkoopcmeaaGreatDoorK37
namespace Go.Proofs.YtcngifkoopcmeaaGreatDoor
open Go Go.RowKit

set_option maxRecDepth 20000 in
set_option maxHeartbeats 2000000 in
theorem yCheck_any (s : Sil) (a : Option Addr) (c : Nat) (w : World) (hm : MtsAt w a s.ms) (hml : s.ms.length ≤ 9223372036854775807) (hid : s.id.size ≤ 9223372036854775807) (hz : ∀ m ∈ s.ms, m.1.size ≤ 9223372036854775807) :
    Calls Tryz.prog 26 #[.agg #[.string s.id, .slice a s.ms.length c, .int .i64 s.st, .int .i64 s.en]] w fun e w' => e = .returned (.int .i64 (silE s)) ∧ Below w.heap.size w w' := by
  have d1 := (Below.refl w.heap.size w).alloc (Nat.le_refl _) (.cells #[.string s.id, .slice a s.ms.length c, .int .i64 s.st, .int .i64 s.en] 55)
  have b1 := SBlk.new w s.id a s.ms.length c s.st s.en
  have HN := Lib.hid (fun u => refName_any s.id u hid)
  have HC := Lib.hid (nCheckAll_any a c s.ms _ (hm.below d1 (Nat.le_refl _)) hml hz)
  have HB := Lib.hid b1
  have HD := Lib.hid d1
  clear hid hz
  unfold silE
  by_cases h1 : NameOk s.id
  · rw [decide_eq_true h1] at HN
    rw [if_neg (Classical.not_not.2 h1)]
    clear h1 b1 d1 hm
    by_cases h2 : checkAllE s.ms = 0
    · rw [if_neg (Classical.not_not.2 h2)]
      rw [h2] at HC
      clear h2
      by_cases h3 : s.ms.length = 0
      · rw [if_pos h3]
        have h3' : (s.ms.length : Int) = 0 := by omega
        generalize s.ms.length = n at *
        subst h3
        clear h3' hml
        obtain ⟨id, ms, st, en⟩ := s
        dsimp only at HB HC HN HD ⊢
        go_enter Tryz.func26, Tryz.ntmps26
        go_wp2_with (first | (go_at_call 72; refine (HN.out _).mono ?_; rintro e w1 ⟨rfl, rfl⟩) | (go_at_call 73; refine HC.out.mono ?_; rintro e w1 ⟨rfl, q1⟩; refine Hid.out ?_))
        refine Lib.hid ?_
        have b2 := HB.out.on q1
        have k1 := b2.c1
        have k2 := b2.c2
        have k3 := b2.c3
        have HQ := Lib.hid (HD.out.trans (q1.mono HD.out.size))
        clear b2 q1 HB HD HC HN
        go_wp2
        go_ret
        exact ⟨rfl, HQ.out⟩
      · rw [if_neg h3]
        have h3' : ¬ (s.ms.length : Int) = 0 := by omega
        have h3b : ((s.ms.length : Int) == 0) = false := by simpa using h3'
        generalize s.ms.length = n at *
        clear h3 hml
        obtain ⟨id, ms, st, en⟩ := s
        dsimp only at HB HC HN HD ⊢
        by_cases h4 : st < 0
        · rw [if_pos (Or.inl h4)]
          go_enter Tryz.func26, Tryz.ntmps26
          go_wp2_with (first | (go_at_call 72; refine (HN.out _).mono ?_; rintro e w1 ⟨rfl, rfl⟩) | (go_at_call 73; refine HC.out.mono ?_; rintro e w1 ⟨rfl, q1⟩; refine Hid.out ?_))
          refine Lib.hid ?_
          have b2 := HB.out.on q1
          have k1 := b2.c1
          have k2 := b2.c2
          have k3 := b2.c3
          have HQ := Lib.hid (HD.out.trans (q1.mono HD.out.size))
          clear b2 q1 HB HD HC HN
          go_wp2
          go_ret
          exact ⟨rfl, HQ.out⟩
        by_cases h5 : en < st
        · rw [if_pos (Or.inr (Or.inl h5))]
          go_enter Tryz.func26, Tryz.ntmps26
          go_wp2_with (first | (go_at_call 72; refine (HN.out _).mono ?_; rintro e w1 ⟨rfl, rfl⟩) | (go_at_call 73; refine HC.out.mono ?_; rintro e w1 ⟨rfl, q1⟩; refine Hid.out ?_))
          refine Lib.hid ?_
          have b2 := HB.out.on q1
          have k1 := b2.c1
          have k2 := b2.c2
          have k3 := b2.c3
          have HQ := Lib.hid (HD.out.trans (q1.mono HD.out.size))
          clear b2 q1 HB HD HC HN
          go_wp2
          go_ret
          exact ⟨rfl, HQ.out⟩
        by_cases h6 : 1099511627776 < en
        · rw [if_pos (Or.inr (Or.inr h6))]
          go_enter Tryz.func26, Tryz.ntmps26
          go_wp2_with (first | (go_at_call 72; refine (HN.out _).mono ?_; rintro e w1 ⟨rfl, rfl⟩) | (go_at_call 73; refine HC.out.mono ?_; rintro e w1 ⟨rfl, q1⟩; refine Hid.out ?_))
          refine Lib.hid ?_
          have b2 := HB.out.on q1
          have k1 := b2.c1
          have k2 := b2.c2
          have k3 := b2.c3
          have HQ := Lib.hid (HD.out.trans (q1.mono HD.out.size))
          clear b2 q1 HB HD HC HN
          go_wp2
          go_ret
          exact ⟨rfl, HQ.out⟩
        · rw [if_neg (by omega)]
          go_enter Tryz.func26, Tryz.ntmps26
          go_wp2_with (first | (go_at_call 72; refine (HN.out _).mono ?_; rintro e w1 ⟨rfl, rfl⟩) | (go_at_call 73; refine HC.out.mono ?_; rintro e w1 ⟨rfl, q1⟩; refine Hid.out ?_))
          refine Lib.hid ?_
          have b2 := HB.out.on q1
          have k1 := b2.c1
          have k2 := b2.c2
          have k3 := b2.c3
          have HQ := Lib.hid (HD.out.trans (q1.mono HD.out.size))
          clear b2 q1 HB HD HC HN
          go_wp2
          go_ret
          exact ⟨rfl, HQ.out⟩
    · rw [if_pos h2]
      have hb : ((checkAllE s.ms : Int) != 0) = true := by simpa using h2
      generalize checkAllE s.ms = E at *
      generalize s.ms.length = n at *
      clear h2 hml
      obtain ⟨id, ms, st, en⟩ := s
      dsimp only at HB HC HN HD ⊢
      go_enter Tryz.func26, Tryz.ntmps26
      go_wp2_with (first | (go_at_call 72; refine (HN.out _).mono ?_; rintro e w1 ⟨rfl, rfl⟩) | (go_at_call 73; refine HC.out.mono ?_; rintro e w1 ⟨rfl, q1⟩; refine Hid.out ?_))
      refine Lib.hid ?_
      have b2 := HB.out.on q1
      have k1 := b2.c1
      have k2 := b2.c2
      have k3 := b2.c3
      have HQ := Lib.hid (HD.out.trans (q1.mono HD.out.size))
      clear b2 q1 HB HD HC HN
      go_wp2
      go_ret
      exact ⟨rfl, HQ.out⟩
  · rw [decide_eq_false h1] at HN
    rw [if_pos h1]
    clear h1 b1 d1 hm HC HB
    generalize s.ms.length = n at *
    obtain ⟨id, ms, st, en⟩ := s
    dsimp only at HN HD ⊢
    go_enter Tryz.func26, Tryz.ntmps26
    go_wp2_with (go_at_call 72; refine (HN.out _).mono ?_; rintro e w1 ⟨rfl, rfl⟩)
    go_ret
    exact ⟨rfl, HD.out⟩


theorem srcY_lt {w : World} {q : Addr} {k c : Nat} {l : List UInt8} (h : SrcAt w (.slice (some q) k c) l) (hl : l ≠ []) : q.block < w.heap.size := by
  rcases h with ⟨h, -⟩ | ⟨q', c', e, hc⟩
  · cases h
  · simp only [Value.slice.injEq, Option.some.injEq] at e
    obtain ⟨rfl, -, -⟩ := e
    have hp : 0 < l.length := by cases l with
      | nil => exact absurd rfl hl
      | cons x r => simp
    have h1 := World.block_lt_of_cell? w _ (hc 0 hp)
    rwa [add_block] at h1
theorem src_stringY {w : World} {v : Value} {l : List UInt8} (h : SrcAt w v l) : (convert 111 9 v).run Tryz.prog w = .ok (.string ⟨l.toArray⟩) w := by
  rcases h with ⟨rfl, rfl⟩ | ⟨q, c, rfl, hc⟩
  · exact run_convert_bytes_zero w 111 5 Tryz.underlying111 Tryz.underlying5 none 0 9 Tryz.underlying9
  · exact run_convert_bytes_back (P := Tryz.prog) w 111 9 5 q c l Tryz.underlying111 Tryz.underlying5 Tryz.underlying9 hc
theorem putText_some (l : List UInt8) : putText l ≠ [] := by simp [putText]
theorem putInt_some (n : Int) : putInt n ≠ [] := by simp [putInt]
theorem refList_valY (q : Option Addr) (c : Nat) (ls : List (List UInt8)) (w : World) (h : PartsAt w q ls) (hn : ls.length ≤ 140737488355328) (hl : ls.flatten.length ≤ 140737488355000) (n : Nat) (hnl : n = ls.length) :
    Calls Tryz.prog 110 #[.slice q n c] w fun e w' => ∃ a k c, e = .returned (.slice a k c) ∧ SrcAt w' (.slice a k c) (putList ls) ∧ Below w.heap.size w w' := by
  subst hnl
  exact refList_any q c ls w h hn hl
/-- A matcher's cells, in a list. -/
def MCY (w : World) (b o : Nat) (m : Mt) : Prop := w.cell? ⟨b, o, none⟩ = some (.string m.1) ∧ w.cell? ⟨b, o + 1, none⟩ = some (.int .u8 (m.2.1 : Int)) ∧ w.cell? ⟨b, o + 2, none⟩ = some (.string m.2.2)
theorem MCY.lt {w : World} {b o : Nat} {m : Mt} (h : MCY w b o m) : b < w.heap.size := World.block_lt_of_cell? w _ h.1
theorem MCY.on {w w' : World} {b o : Nat} {m : Mt} (h : MCY w b o m) (hb : Below w.heap.size w w') : MCY w' b o m :=
  ⟨(hb.cell (p := ⟨b, o, none⟩) h.lt).trans h.1, (hb.cell (p := ⟨b, o + 1, none⟩) h.lt).trans h.2.1, (hb.cell (p := ⟨b, o + 2, none⟩) h.lt).trans h.2.2⟩
theorem MCY.grown {w w' : World} {b o : Nat} {m : Mt} {r : Option Nat} (h : MCY w b o m) (hg : w.grownBy w' r) (hne : some b ≠ r) : MCY w' b o m :=
  ⟨hg.cell h.1 hne, hg.cell h.2.1 hne, hg.cell h.2.2 hne⟩

set_option maxHeartbeats 4000000 in
set_option maxRecDepth 100000 in
theorem yvalue_any (s : Sil) (a : Option Addr) (c : Nat) (W : World) (hm : MtsAt W a s.ms) (hl : s.ms.length ≤ 8) (hg : ∀ m ∈ s.ms, GoodM m) (hst : -9223372036854775808 ≤ s.st ∧ s.st ≤ 9223372036854775807) (hen : -9223372036854775808 ≤ s.en ∧ s.en ≤ 9223372036854775807) (n : Nat) (hn : n = s.ms.length) :
    Calls Tryz.prog 69 #[.agg #[.string s.id, .slice a n c, .int .i64 s.st, .int .i64 s.en]] W fun e w' => e = .returned (.string ⟨(layS s.ms s.st s.en).toArray⟩) ∧ Below W.heap.size W w' := by
  obtain ⟨i0, hi, hi0, hi1, hi2⟩ := info_parts infoBytes
  have b1 := SBlk.new W s.id a n c s.st s.en
  have d1 := (Below.refl _ W).alloc (Nat.le_refl _) (.cells #[.string s.id, .slice a n c, .int .i64 s.st, .int .i64 s.en] 55)
  have HX := Lib.hid (And.intro hl (And.intro hg (And.intro hst hen)))
  have HM := Lib.hid (hm.below d1 (Nat.le_refl _))
  have HB1 := Lib.hid b1
  have HD1 := Lib.hid d1
  have HN := Lib.hid hn
  obtain ⟨id, ms, st, en⟩ := s
  dsimp only at *
  have hn8 : n ≤ 8 := by omega
  clear b1 d1 hm hst hen hg hl hn
  go_enter Tryz.func69, Tryz.ntmps69
  go_wp2
  generalize (W.alloc (.cells #[.string id, .slice a n c, .int .i64 st, .int .i64 en] 55)) = w1 at *
  go_loopw [3, 4] (fun v i wr => ∃ (k : Nat) (a7 : Option Addr) (n7 c7 : Nat) (vs : List Value), k ≤ n ∧ i = .int .i64 k ∧ v = .slice a7 n7 c7 ∧ Hid (RowOf wr w1.heap.size (.slice a7 n7 c7) vs (partsMs (ms.take k)) ∧ Below w1.heap.size w1 wr)) (fun _ i _ => n - (intOf i).toNat)
  case atStart => exact ⟨0, none, 0, 0, [], Nat.zero_le _, rfl, rfl, Lib.hid ⟨by simpa [partsMs] using RowOf.nil _ _, Below.refl _ _⟩⟩
  case round =>
    obtain ⟨k, a7, n7, c7, vs, hk, rfl, rfl, HR⟩ := hrel
    have hs0 : SBlk wr W.heap.size id a n c st en := (HR.out.2.block W.heap.size HB1.out.lt).trans HB1.out
    have HS0 := Lib.hid hs0
    have k1 := hs0.c1
    clear hs0
    by_cases hlt : k < n
    · have hkl : (k : Int) < (n : Int) := by omega
      have HLT := Lib.hid hlt
      have hkx : k < ms.length := by have := HN.out; omega
      obtain ⟨b, o, rfl, hb, hc⟩ := HM.out (Nat.lt_of_le_of_lt (Nat.zero_le _) hkx)
      obtain ⟨hc0, hc1, hc2⟩ := hc k hkx
      rw [← HR.out.2.cell (p := ⟨b, o + k * 3, none⟩) hb] at hc0
      rw [← HR.out.2.cell (p := ⟨b, o + k * 3 + 1, none⟩) hb] at hc1
      rw [← HR.out.2.cell (p := ⟨b, o + k * 3 + 2, none⟩) hb] at hc2
      have hgm := HX.out.2.1 _ (List.getElem_mem hkx)
      have HP := Lib.hid (partsMs_take ms k hkx)
      have hlb : vs.length ≤ 24 := by
        have h1 := HR.out.1.len
        rw [partsMs_count, List.length_take] at h1
        have h2 := HX.out.1
        omega
      have HLB := Lib.hid hlb
      clear hc hlb
      generalize ms[k] = m at *
      obtain ⟨mn, mo, mv⟩ := m
      obtain ⟨hg1, hg2, hg3⟩ := hgm
      dsimp only at hc0 hc1 hc2 hg1 hg2 hg3 HP
      have wo : IntKind.i64.wrap (mo : Int) = (mo : Int) := by rw [IntKind.wrap_i64]; omega
      have HG := Lib.hid (And.intro hg1 (And.intro hg2 hg3))
      have hmc : MCY wr b (o + k * 3) (mn, mo, mv) := ⟨hc0, hc1, hc2⟩
      have HBW := Lib.hid (show b < w1.heap.size from hb)
      clear hg1 hg2 hg3 hc0 hc1 hc2 hkx hb
      go_wp2_with fail
      have hdb := HR.out.2
      have hxne : some W.heap.size ≠ (Value.slice a7 n7 c7).ownBlock := fun e => by
        have h1 := (HR.out.1.own.lt _ e.symm).1
        have h2 := HB1.out.lt
        omega
      have hbne : some b ≠ (Value.slice a7 n7 c7).ownBlock := fun e => by
        have h1 := (HR.out.1.own.lt _ e.symm).1
        have h2 := HBW.out
        omega
      have HNE := Lib.hid (And.intro hxne hbne)
      have d2 : Below w1.heap.size w1 wr.drew := hdb.drew
      have HD2 := Lib.hid d2
      have HA1 := Lib.hid (refText_any mn (by have := HG.out.1; omega) wr.drew)
      have hsb := HS0.out
      clear hdb hxne hbne d2 k1
      refine wp_region_any (by kernel_rfl) ?_
      change wpAny _ _ _ _ _ _ _ (World.drew _)
      have hS : (fun w' : World => SBlk w' W.heap.size id (some ⟨b, o, none⟩) n c st en ∧ MCY w' b (o + k * 3) (mn, mo, mv)) wr.drew := ⟨hsb, hmc⟩
      refine wpAny_of_held (S := fun w' => SBlk w' W.heap.size id (some ⟨b, o, none⟩) n c st en ∧ MCY w' b (o + k * 3) (mn, mo, mv)) _ _ _ _ ?_
      clear hmc hsb HS0
      refine wpAnyH_takeE (i := 0) (some 12) (v := ?_) rfl rfl (by as_aux_lemma => kernel_rfl) (by as_aux_lemma => kernel_rfl) (by as_aux_lemma => kernel_rfl) (fun _ _ _ h => h) (Or.inl ⟨by kernel_rfl, ?_⟩) hS ?_
      rotate_left
      · intro w hSw; have k1 := hSw.1.c1; have c0 := hSw.2.1; have c1 := hSw.2.2.1; have c2 := hSw.2.2.2; dsimp only at c0 c1 c2; go_simp
        first | done | with_reducible rfl
      refine wpAnyH_takeE (i := 1) (some 13) (v := ?_) rfl rfl (by as_aux_lemma => kernel_rfl) (by as_aux_lemma => kernel_rfl) (by as_aux_lemma => kernel_rfl) (fun _ _ _ h => h) (Or.inl ⟨by kernel_rfl, ?_⟩) hS ?_
      rotate_left
      · intro w hSw; have k1 := hSw.1.c1; have c0 := hSw.2.1; have c1 := hSw.2.2.1; have c2 := hSw.2.2.2; dsimp only at c0 c1 c2; go_simp
        first | done | with_reducible rfl
      refine wpAnyH_takeE (i := 2) (some 14) (v := ?_) rfl rfl (by as_aux_lemma => kernel_rfl) (by as_aux_lemma => kernel_rfl) (by as_aux_lemma => kernel_rfl) (fun _ _ _ h => h) (Or.inl ⟨by kernel_rfl, ?_⟩) hS ?_
      rotate_left
      · intro w hSw; have k1 := hSw.1.c1; have c0 := hSw.2.1; have c1 := hSw.2.2.1; have c2 := hSw.2.2.2; dsimp only at c0 c1 c2; go_simp
        first | done | with_reducible rfl
      refine wpAnyH_takeE (i := 3) (some 15) (v := ?_) rfl rfl (by as_aux_lemma => kernel_rfl) (by as_aux_lemma => kernel_rfl) (by as_aux_lemma => kernel_rfl) (fun _ _ _ h => h) (Or.inl ⟨by kernel_rfl, ?_⟩) hS ?_
      rotate_left
      · intro w hSw; have k1 := hSw.1.c1; have c0 := hSw.2.1; have c1 := hSw.2.2.1; have c2 := hSw.2.2.2; dsimp only at c0 c1 c2; go_simp
        first | done | with_reducible rfl
      refine wpAnyH_takeE (i := 4) (some 16) (v := ?_) rfl rfl (by as_aux_lemma => kernel_rfl) (by as_aux_lemma => kernel_rfl) (by as_aux_lemma => kernel_rfl) (fun _ _ _ h => h) (Or.inl ⟨by kernel_rfl, ?_⟩) hS ?_
      rotate_left
      · intro w hSw; have k1 := hSw.1.c1; have c0 := hSw.2.1; have c1 := hSw.2.2.1; have c2 := hSw.2.2.2; dsimp only at c0 c1 c2; go_simp
        first | done | with_reducible rfl
      refine wpAnyH_takeE (i := 5) (some 17) (v := ?_) rfl rfl (by as_aux_lemma => kernel_rfl) (by as_aux_lemma => kernel_rfl) (by as_aux_lemma => kernel_rfl) (fun _ _ _ h => h) (Or.inl ⟨by kernel_rfl, ?_⟩) hS ?_
      rotate_left
      · intro w hSw; have k1 := hSw.1.c1; have c0 := hSw.2.1; have c1 := hSw.2.2.1; have c2 := hSw.2.2.2; dsimp only at c0 c1 c2; go_simp
        first | done | with_reducible rfl
      refine wpAnyH_takeE (i := 6) (some 18) (v := ?_) rfl rfl (by as_aux_lemma => kernel_rfl) (by as_aux_lemma => kernel_rfl) (by as_aux_lemma => kernel_rfl) (fun _ _ _ h => h) (Or.inl ⟨by kernel_rfl, ?_⟩) hS ?_
      rotate_left
      · intro w hSw; have k1 := hSw.1.c1; have c0 := hSw.2.1; have c1 := hSw.2.2.1; have c2 := hSw.2.2.2; dsimp only at c0 c1 c2; go_simp
        first | done | with_reducible rfl
      refine wpAnyH_takeE (i := 8) (some 20) (v := ?_) rfl rfl (by as_aux_lemma => kernel_rfl) (by as_aux_lemma => kernel_rfl) (by as_aux_lemma => kernel_rfl) (fun _ _ _ h => h) (Or.inl ⟨by kernel_rfl, ?_⟩) hS ?_
      rotate_left
      · intro w hSw; have k1 := hSw.1.c1; have c0 := hSw.2.1; have c1 := hSw.2.2.1; have c2 := hSw.2.2.2; dsimp only at c0 c1 c2; go_simp
        first | done | with_reducible rfl
      refine wpAnyH_takeE (i := 9) (some 21) (v := ?_) rfl rfl (by as_aux_lemma => kernel_rfl) (by as_aux_lemma => kernel_rfl) (by as_aux_lemma => kernel_rfl) (fun _ _ _ h => h) (Or.inl ⟨by kernel_rfl, ?_⟩) hS ?_
      rotate_left
      · intro w hSw; have k1 := hSw.1.c1; have c0 := hSw.2.1; have c1 := hSw.2.2.1; have c2 := hSw.2.2.2; dsimp only at c0 c1 c2; go_simp
        first | done | with_reducible rfl
      refine wpAnyH_takeE (i := 10) (some 22) (v := ?_) rfl rfl (by as_aux_lemma => kernel_rfl) (by as_aux_lemma => kernel_rfl) (by as_aux_lemma => kernel_rfl) (fun _ _ _ h => h) (Or.inl ⟨by kernel_rfl, ?_⟩) hS ?_
      rotate_left
      · intro w hSw; have k1 := hSw.1.c1; have c0 := hSw.2.1; have c1 := hSw.2.2.1; have c2 := hSw.2.2.2; dsimp only at c0 c1 c2; go_simp
        first | done | with_reducible rfl
      refine wpAnyH_takeE (i := 11) (some 23) (v := ?_) rfl rfl (by as_aux_lemma => kernel_rfl) (by as_aux_lemma => kernel_rfl) (by as_aux_lemma => kernel_rfl) (fun _ _ _ h => h) (Or.inl ⟨by kernel_rfl, ?_⟩) hS ?_
      rotate_left
      · intro w hSw; have k1 := hSw.1.c1; have c0 := hSw.2.1; have c1 := hSw.2.2.1; have c2 := hSw.2.2.2; dsimp only at c0 c1 c2; go_simp
        first | done | with_reducible rfl
      refine wpAnyH_takeE (i := 12) (some 24) (v := ?_) rfl rfl (by as_aux_lemma => kernel_rfl) (by as_aux_lemma => kernel_rfl) (by as_aux_lemma => kernel_rfl) (fun _ _ _ h => h) (Or.inl ⟨by kernel_rfl, ?_⟩) hS ?_
      rotate_left
      · intro w hSw; have k1 := hSw.1.c1; have c0 := hSw.2.1; have c1 := hSw.2.2.1; have c2 := hSw.2.2.2; dsimp only at c0 c1 c2; go_simp
        first | done | with_reducible rfl
      refine wpAnyH_takeE (i := 13) (some 25) (v := ?_) rfl rfl (by as_aux_lemma => kernel_rfl) (by as_aux_lemma => kernel_rfl) (by as_aux_lemma => kernel_rfl) (fun _ _ _ h => h) (Or.inl ⟨by kernel_rfl, ?_⟩) hS ?_
      rotate_left
      · intro w hSw; have k1 := hSw.1.c1; have c0 := hSw.2.1; have c1 := hSw.2.2.1; have c2 := hSw.2.2.2; dsimp only at c0 c1 c2; go_simp
        first | done | with_reducible rfl
      refine wpAnyH_takeE (i := 14) (some 26) (v := ?_) rfl rfl (by as_aux_lemma => kernel_rfl) (by as_aux_lemma => kernel_rfl) (by as_aux_lemma => kernel_rfl) (fun _ _ _ h => h) (Or.inl ⟨by kernel_rfl, ?_⟩) hS ?_
      rotate_left
      · intro w hSw; have k1 := hSw.1.c1; have c0 := hSw.2.1; have c1 := hSw.2.2.1; have c2 := hSw.2.2.2; dsimp only at c0 c1 c2; go_simp
        first | done | with_reducible rfl
      refine wpAnyH_takeE (i := 16) (some 28) (v := ?_) rfl rfl (by as_aux_lemma => kernel_rfl) (by as_aux_lemma => kernel_rfl) (by as_aux_lemma => kernel_rfl) (fun _ _ _ h => h) (Or.inl ⟨by kernel_rfl, ?_⟩) hS ?_
      rotate_left
      · intro w hSw; have k1 := hSw.1.c1; have c0 := hSw.2.1; have c1 := hSw.2.2.1; have c2 := hSw.2.2.2; dsimp only at c0 c1 c2; go_simp
        first | done | with_reducible rfl
      refine wpAnyH_takeE (i := 17) (some 29) (v := ?_) rfl rfl (by as_aux_lemma => kernel_rfl) (by as_aux_lemma => kernel_rfl) (by as_aux_lemma => kernel_rfl) (fun _ _ _ h => h) (Or.inl ⟨by kernel_rfl, ?_⟩) hS ?_
      rotate_left
      · intro w hSw; have k1 := hSw.1.c1; have c0 := hSw.2.1; have c1 := hSw.2.2.1; have c2 := hSw.2.2.2; dsimp only at c0 c1 c2; go_simp
        first | done | with_reducible rfl
      refine wpAnyH_takeE (i := 18) (some 30) (v := ?_) rfl rfl (by as_aux_lemma => kernel_rfl) (by as_aux_lemma => kernel_rfl) (by as_aux_lemma => kernel_rfl) (fun _ _ _ h => h) (Or.inl ⟨by kernel_rfl, ?_⟩) hS ?_
      rotate_left
      · intro w hSw; have k1 := hSw.1.c1; have c0 := hSw.2.1; have c1 := hSw.2.2.1; have c2 := hSw.2.2.2; dsimp only at c0 c1 c2; go_simp
        first | done | with_reducible rfl
      refine wpAnyH_takeE (i := 19) (some 31) (v := ?_) rfl rfl (by as_aux_lemma => kernel_rfl) (by as_aux_lemma => kernel_rfl) (by as_aux_lemma => kernel_rfl) (fun _ _ _ h => h) (Or.inl ⟨by kernel_rfl, ?_⟩) hS ?_
      rotate_left
      · intro w hSw; have k1 := hSw.1.c1; have c0 := hSw.2.1; have c1 := hSw.2.2.1; have c2 := hSw.2.2.2; dsimp only at c0 c1 c2; go_simp
        first | done | with_reducible rfl
      refine wpAnyH_takeE (i := 20) (some 32) (v := ?_) rfl rfl (by as_aux_lemma => kernel_rfl) (by as_aux_lemma => kernel_rfl) (by as_aux_lemma => kernel_rfl) (fun _ _ _ h => h) (Or.inl ⟨by kernel_rfl, ?_⟩) hS ?_
      rotate_left
      · intro w hSw; have k1 := hSw.1.c1; have c0 := hSw.2.1; have c1 := hSw.2.2.1; have c2 := hSw.2.2.2; dsimp only at c0 c1 c2; go_simp
        first | done | with_reducible rfl
      refine wpAnyH_takeE (i := 21) (some 33) (v := ?_) rfl rfl (by as_aux_lemma => kernel_rfl) (by as_aux_lemma => kernel_rfl) (by as_aux_lemma => kernel_rfl) (fun _ _ _ h => h) (Or.inl ⟨by kernel_rfl, ?_⟩) hS ?_
      rotate_left
      · intro w hSw; have k1 := hSw.1.c1; have c0 := hSw.2.1; have c1 := hSw.2.2.1; have c2 := hSw.2.2.2; dsimp only at c0 c1 c2; go_simp
        first | done | with_reducible rfl
      refine wpAnyH_ready (rs := [7]) (by as_aux_lemma => kernel_rfl) (by simp) ?_
      refine AllReadyH.cons rfl (fun K hK => ?_) AllReadyH.nil
      go_simp
      go_wp2_with (go_at_call 109; refine HA1.out.mono ?_; rintro e w3 ⟨a3, k3, c3, rfl, ho3, hl3, hb3⟩)
      refine hK.out _ _ ?_ (fun hS => ?_)
      · exact ⟨hS.1.on hb3, hS.2.on hb3⟩
      clear hK K
      have d3 : Below w1.heap.size w1 w3 := HD2.out.trans (hb3.mono (HD2.out).size)
      have HD3 := Lib.hid d3
      have HO3 := Lib.hid (And.intro ho3 (And.intro hl3 (srcY_lt ho3 (putText_some _))))
      have HB3 := Lib.hid hb3
      have HA2 := Lib.hid (refInt_any mo (by omega) (by have := HG.out.2.1; omega) w3)
      clear d3 ho3 hl3 hb3 HA1
      refine wpAnyH_ready (rs := [15]) (by as_aux_lemma => kernel_rfl) (by simp) ?_
      refine AllReadyH.cons rfl (fun K hK => ?_) AllReadyH.nil
      go_simp
      go_wp2_with (go_at_call 108; refine HA2.out.mono ?_; rintro e w4 ⟨a4, k4, c4, rfl, ho4, hl4, hb4⟩)
      refine hK.out _ _ ?_ (fun hS => ?_)
      · exact ⟨hS.1.on hb4, hS.2.on hb4⟩
      clear hK K
      have d4 : Below w1.heap.size w1 w4 := HD3.out.trans (hb4.mono (HD3.out).size)
      have HD4 := Lib.hid d4
      have HO4 := Lib.hid (And.intro ho4 (And.intro hl4 (srcY_lt ho4 (putInt_some _))))
      have HB4 := Lib.hid hb4
      have HA3 := Lib.hid (refText_any mv (by have := HG.out.2.2; omega) w4)
      clear d4 ho4 hl4 hb4 HA2
      refine wpAnyH_ready (rs := [22]) (by as_aux_lemma => kernel_rfl) (by simp) ?_
      refine AllReadyH.cons rfl (fun K hK => ?_) AllReadyH.nil
      go_simp
      go_wp2_with (go_at_call 109; refine HA3.out.mono ?_; rintro e w5 ⟨a5, k5, c5, rfl, ho5, hl5, hb5⟩)
      refine hK.out _ _ ?_ (fun hS => ?_)
      · exact ⟨hS.1.on hb5, hS.2.on hb5⟩
      clear hK K
      have d5 : Below w1.heap.size w1 w5 := HD4.out.trans (hb5.mono (HD4.out).size)
      have HD5 := Lib.hid d5
      have HO5 := Lib.hid (And.intro ho5 (And.intro hl5 (srcY_lt ho5 (putText_some _))))
      have HB5 := Lib.hid hb5
      clear d5 ho5 hl5 hb5 HA3
      refine wpAnyH_ready (rs := [23]) (by as_aux_lemma => kernel_rfl) (by simp) ?_
      refine AllReadyH.cons rfl (fun K hK => ?_) AllReadyH.nil
      go_simp
      go_wp2_with (fail)
      refine hK.out _ _ ?_ (fun hS => ?_)
      · exact ⟨hS.1.on ((Below.refl w5.heap.size w5).alloc (Nat.le_refl _) _), hS.2.on ((Below.refl w5.heap.size w5).alloc (Nat.le_refl _) _)⟩
      clear hK K
      have hbb : Below wr.heap.size wr w5 := (((Below.refl wr.heap.size wr).drew.trans (HB3.out.mono (Nat.le_refl _))).trans (HB4.out.mono HB3.out.size)).trans (HB5.out.mono (Nat.le_trans HB3.out.size HB4.out.size))
      have hr5 := (HR.out.1.below hbb).own.alloc (.cells #[.slice (some a3) k3 c3, .slice (some a4) k4 c4, .slice (some a5) k5 c5] 111)
      have hz5 : w1.heap.size ≤ (w5.alloc (.cells #[.slice (some a3) k3 c3, .slice (some a4) k4 c4, .slice (some a5) k5 c5] 111)).heap.size := by have := HD5.out.size; simp; omega
      have hlb := HLB.out
      refine wpAnyH_ready (rs := [24]) (by as_aux_lemma => kernel_rfl) (by simp) ?_
      refine AllReadyH.cons rfl (fun K hK => ?_) AllReadyH.nil
      refine step_append_lies _ rfl _ _ 113 rfl w1.heap.size 111 i0 (.slice none 0 0) 1 24 Tryz.underlying113 hi hi0 hi1 hi2 rfl (by decide) (.slice a7 n7 c7) vs.length vs (by kernel_rfl) hr5 ⟨w5.heap.size, 0, none⟩ 3 3 [.slice (some a3) k3 c3, .slice (some a4) k4 c4, .slice (some a5) k5 c5] (by kernel_rfl) rfl (World.news_of_block (cs := #[.slice (some a3) k3 c3, .slice (some a4) k4 c4, .slice (some a5) k5 c5]) (newE _ _)) (by intro u' hu'; simp at hu'; rcases hu' with rfl | rfl | rfl <;> rfl) (by decide) (by unfold maxLen; omega) (by omega) hz5 (w5.heap.size + 1) (by simp) ?_
      intro g cap w6 hown6 hg6 hat6 hlt6
      refine hK.out _ _ ?_ (fun hS => ?_)
      · exact ⟨(hg6.block W.heap.size (hS.1.lt) HNE.out.1).trans hS.1, hS.2.grown hg6 HNE.out.2⟩
      clear hK K
      have hrow6 : RowOf w6 w1.heap.size (.slice (some ⟨g, 0, none⟩) (vs.length + 3) cap) (vs ++ [.slice (some a3) k3 c3, .slice (some a4) k4 c4, .slice (some a5) k5 c5]) (partsMs (ms.take (k + 1))) := by
        rw [HP.out]
        refine HR.out.1.steps hbb rfl (fun j hj => ?_) ?_ hown6 hg6 (hat6.imp (fun e => e.symm) (fun e => by rw [e]; rfl))
        · match j, hj with
          | 0, _ => exact ((HO3.out.1.below HB4.out (Nat.le_refl _)).below HB5.out (Nat.le_refl _))
          | 1, _ => exact HO4.out.1.below HB5.out (Nat.le_refl _)
          | 2, _ => exact HO5.out.1
        · have s3 := HB3.out.size
          have s4 := HB4.out.size
          have s5 := HB5.out.size
          simp only [World.size_drew] at s3
          obtain ⟨-, p3, r3⟩ := HO3.out
          obtain ⟨-, p4, r4⟩ := HO4.out
          obtain ⟨-, p5, r5⟩ := HO5.out
          simp only [World.size_drew] at p3
          intro y hy q n' c' e
          simp only [List.mem_cons, List.not_mem_nil, or_false] at hy
          rcases hy with rfl | rfl | rfl <;> (simp only [Value.slice.injEq, Option.some.injEq] at e; obtain ⟨rfl, -, -⟩ := e; omega)
      have hnx6 : Below w1.heap.size w1 w6 := (HD5.out.alloc HD5.out.size _).grown hg6 hz5 (fun j hj => (HR.out.1.own.lt j hj).1)
      have HF := Lib.hid (And.intro hrow6 hnx6)
      clear hrow6 hnx6 hown6 hg6 hat6 hlt6 hbb hr5 hz5 hlb HO3 HO4 HO5 HB3 HB4 HB5 HD3 HD4 HD5 HR HD2 HG HP
      refine wpAnyH_takeE (i := 25) (some 3) (v := ?_) rfl rfl (by as_aux_lemma => kernel_rfl) (by as_aux_lemma => kernel_rfl) (by as_aux_lemma => kernel_rfl) (fun _ _ _ h => h) (Or.inl ⟨by kernel_rfl, ?_⟩) hS ?_
      rotate_left
      · intro w hSw; skip; go_simp
        first | done | with_reducible rfl
      refine wpAnyH_done (by kernel_rfl) ?_ _
      clear hS HNE HBW
      go_wp2
      go_roundw
      case rel => exact ⟨k + 1, _, _, _, _, by have := HLT.out; omega, by go_num, rfl, HF⟩
      case measure => have := HLT.out; simp [intOf]; omega
    · have hkl : ¬ (k : Int) < (n : Int) := by omega
      obtain rfl : k = n := by omega
      have HR2 : Hid (RowOf wr w1.heap.size (.slice a7 n7 c7) vs (partsMs ms) ∧ Below w1.heap.size w1 wr) := Lib.hid ⟨by have := HR.out.1; rw [HN.out, List.take_length] at this; exact this, HR.out.2⟩
      have hlb : vs.length ≤ 24 := by
        have h1 := HR2.out.1.len
        rw [partsMs_count] at h1
        have h2 := HX.out.1
        have h3 := HN.out
        omega
      have HLB := Lib.hid hlb
      clear HR hlb hk
      go_wp2_with fail
      obtain ⟨-, hg, hst, hen⟩ := HX.out
      have d2 : Below w1.heap.size w1 wr.drew := HR2.out.2.drew
      have HA1 := Lib.hid (refInt_any st hst.1 hst.2 wr.drew)
      have HD2 := Lib.hid d2
      have bm : SBlk wr.drew W.heap.size id a k c st en := HS0.out
      have HEN := Lib.hid hen
      clear hg hst hen d2 k1
      refine wp_region_any (by kernel_rfl) ?_
      change wpAny _ _ _ _ _ _ _ (World.drew _)
      have hS : (fun w' : World => SBlk w' W.heap.size id a k c st en) wr.drew := bm
      refine wpAny_of_held (S := fun w' => SBlk w' W.heap.size id a k c st en) _ _ _ _ ?_
      clear bm
      refine wpAnyH_takeE (i := 0) (some 37) (v := ?_) rfl rfl (by as_aux_lemma => kernel_rfl) (by as_aux_lemma => kernel_rfl) (by as_aux_lemma => kernel_rfl) (fun _ _ _ h => h) (Or.inl ⟨by kernel_rfl, ?_⟩) hS ?_
      rotate_left
      · intro w hSw; have c2 := hSw.c2; have c3 := hSw.c3; go_simp
        first | done | with_reducible rfl
      refine wpAnyH_takeE (i := 1) (some 38) (v := ?_) rfl rfl (by as_aux_lemma => kernel_rfl) (by as_aux_lemma => kernel_rfl) (by as_aux_lemma => kernel_rfl) (fun _ _ _ h => h) (Or.inl ⟨by kernel_rfl, ?_⟩) hS ?_
      rotate_left
      · intro w hSw; have c2 := hSw.c2; have c3 := hSw.c3; go_simp
        first | done | with_reducible rfl
      refine wpAnyH_takeE (i := 2) (some 39) (v := ?_) rfl rfl (by as_aux_lemma => kernel_rfl) (by as_aux_lemma => kernel_rfl) (by as_aux_lemma => kernel_rfl) (fun _ _ _ h => h) (Or.inl ⟨by kernel_rfl, ?_⟩) hS ?_
      rotate_left
      · intro w hSw; have c2 := hSw.c2; have c3 := hSw.c3; go_simp
        first | done | with_reducible rfl
      refine wpAnyH_takeE (i := 4) (some 41) (v := ?_) rfl rfl (by as_aux_lemma => kernel_rfl) (by as_aux_lemma => kernel_rfl) (by as_aux_lemma => kernel_rfl) (fun _ _ _ h => h) (Or.inl ⟨by kernel_rfl, ?_⟩) hS ?_
      rotate_left
      · intro w hSw; have c2 := hSw.c2; have c3 := hSw.c3; go_simp
        first | done | with_reducible rfl
      refine wpAnyH_takeE (i := 5) (some 42) (v := ?_) rfl rfl (by as_aux_lemma => kernel_rfl) (by as_aux_lemma => kernel_rfl) (by as_aux_lemma => kernel_rfl) (fun _ _ _ h => h) (Or.inl ⟨by kernel_rfl, ?_⟩) hS ?_
      rotate_left
      · intro w hSw; have c2 := hSw.c2; have c3 := hSw.c3; go_simp
        first | done | with_reducible rfl
      refine wpAnyH_ready (rs := [3]) (by as_aux_lemma => kernel_rfl) (by simp) ?_
      refine AllReadyH.cons rfl (fun K hK => ?_) AllReadyH.nil
      go_simp
      go_wp2_with (go_at_call 108; refine HA1.out.mono ?_; rintro e w3 ⟨a3, k3, c3, rfl, ho3, hl3, hb3⟩)
      refine hK.out _ _ ?_ (fun hS => ?_)
      · exact hS.on hb3
      clear hK K
      have d3 : Below w1.heap.size w1 w3 := HD2.out.trans (hb3.mono (HD2.out).size)
      have HD3 := Lib.hid d3
      have HO3 := Lib.hid (And.intro ho3 (And.intro hl3 (srcY_lt ho3 (putInt_some _))))
      have HB3 := Lib.hid hb3
      have HA2 := Lib.hid (refInt_any en HEN.out.1 HEN.out.2 w3)
      clear d3 ho3 hl3 hb3 HA1
      refine wpAnyH_ready (rs := [6]) (by as_aux_lemma => kernel_rfl) (by simp) ?_
      refine AllReadyH.cons rfl (fun K hK => ?_) AllReadyH.nil
      go_simp
      go_wp2_with (go_at_call 108; refine HA2.out.mono ?_; rintro e w4 ⟨a4, k4, c4, rfl, ho4, hl4, hb4⟩)
      refine hK.out _ _ ?_ (fun hS => ?_)
      · exact hS.on hb4
      clear hK K
      have d4 : Below w1.heap.size w1 w4 := HD3.out.trans (hb4.mono (HD3.out).size)
      have HD4 := Lib.hid d4
      have HO4 := Lib.hid (And.intro ho4 (And.intro hl4 (srcY_lt ho4 (putInt_some _))))
      have HB4 := Lib.hid hb4
      clear d4 ho4 hl4 hb4 HA2
      refine wpAnyH_ready (rs := [7]) (by as_aux_lemma => kernel_rfl) (by simp) ?_
      refine AllReadyH.cons rfl (fun K hK => ?_) AllReadyH.nil
      go_simp
      go_wp2_with (fail)
      refine hK.out _ _ ?_ (fun hS => ?_)
      · exact hS.on ((Below.refl w4.heap.size w4).alloc (Nat.le_refl _) _)
      clear hK K
      have hbb : Below wr.heap.size wr w4 := ((Below.refl wr.heap.size wr).drew.trans (HB3.out.mono (Nat.le_refl _))).trans (HB4.out.mono HB3.out.size)
      have hr4 := (HR2.out.1.below hbb).own.alloc (.cells #[.slice (some a3) k3 c3, .slice (some a4) k4 c4] 111)
      have hz4 : w1.heap.size ≤ (w4.alloc (.cells #[.slice (some a3) k3 c3, .slice (some a4) k4 c4] 111)).heap.size := by have := HD4.out.size; simp; omega
      have hxne : some W.heap.size ≠ (Value.slice a7 n7 c7).ownBlock := fun e => by
        have h1 := (HR2.out.1.own.lt _ e.symm).1
        have h2 := HB1.out.lt
        omega
      have hlb := HLB.out
      refine wpAnyH_ready (rs := [8]) (by as_aux_lemma => kernel_rfl) (by simp) ?_
      refine AllReadyH.cons rfl (fun K hK => ?_) AllReadyH.nil
      refine step_append_lies _ rfl _ _ 113 rfl w1.heap.size 111 i0 (.slice none 0 0) 1 24 Tryz.underlying113 hi hi0 hi1 hi2 rfl (by decide) (.slice a7 n7 c7) vs.length vs (by kernel_rfl) hr4 ⟨w4.heap.size, 0, none⟩ 2 2 [.slice (some a3) k3 c3, .slice (some a4) k4 c4] (by kernel_rfl) rfl (World.news_of_block (cs := #[.slice (some a3) k3 c3, .slice (some a4) k4 c4]) (newE _ _)) (by intro u' hu'; simp at hu'; rcases hu' with rfl | rfl <;> rfl) (by decide) (by unfold maxLen; omega) (by omega) hz4 (w4.heap.size + 1) (by simp) ?_
      intro g cap w6 hown6 hg6 hat6 hlt6
      refine hK.out _ _ ?_ (fun hS => ?_)
      · exact (hg6.block W.heap.size (hS.lt) hxne).trans hS
      clear hK K
      have hrow6 : RowOf w6 w1.heap.size (.slice (some ⟨g, 0, none⟩) (vs.length + 2) cap) (vs ++ [.slice (some a3) k3 c3, .slice (some a4) k4 c4]) (partsS ms st en) := by
        unfold partsS
        refine HR2.out.1.steps hbb rfl (fun j hj => ?_) ?_ hown6 hg6 (hat6.imp (fun e => e.symm) (fun e => by rw [e]; rfl))
        · match j, hj with
          | 0, _ => exact HO3.out.1.below HB4.out (Nat.le_refl _)
          | 1, _ => exact HO4.out.1
        · have s3 := HB3.out.size
          have s4 := HB4.out.size
          simp only [World.size_drew] at s3
          obtain ⟨-, p3, r3⟩ := HO3.out
          obtain ⟨-, p4, r4⟩ := HO4.out
          simp only [World.size_drew] at p3
          intro y hy q n' c' e
          simp only [List.mem_cons, List.not_mem_nil, or_false] at hy
          rcases hy with rfl | rfl <;> (simp only [Value.slice.injEq, Option.some.injEq] at e; obtain ⟨rfl, -, -⟩ := e; omega)
      have hnx6 : Below w1.heap.size w1 w6 := (HD4.out.alloc HD4.out.size _).grown hg6 hz4 (fun j hj => (HR2.out.1.own.lt j hj).1)
      obtain ⟨hn7, hparts⟩ := hrow6.parts
      have hfl : (partsS ms st en).flatten.length ≤ 2000 := by
        have h1 := partsMs_short ms HX.out.2.1
        have h2 := HX.out.1
        have h3 := HN.out
        have h4 := itoa_short st HX.out.2.2.1.1 HX.out.2.2.1.2
        have h5 := itoa_short en HX.out.2.2.2.1 HX.out.2.2.2.2
        unfold partsS
        simp only [List.flatten_append, List.flatten_cons, List.flatten_nil, List.length_append, List.length_nil]
        omega
      have HL := Lib.hid (refList_valY (some ⟨g, 0, none⟩) cap (partsS ms st en) w6 hparts (by have := hrow6.len; rw [← this]; simp; omega) (by omega) (vs.length + 2) hn7)
      have HF := Lib.hid (And.intro HD1.out hnx6)
      clear hparts hn7 hfl hrow6 hnx6 hown6 hg6 hat6 hlt6 hbb hr4 hz4 hlb hxne HO3 HO4 HB3 HB4 HD3 HD4 HD2 HR2
      refine wpAnyH_ready (rs := [9]) (by as_aux_lemma => kernel_rfl) (by simp) ?_
      refine AllReadyH.cons rfl (fun K hK => ?_) AllReadyH.nil
      go_simp
      go_wp2_with (go_at_call 110; refine HL.out.mono ?_; rintro e w8 ⟨a8, k8, c8, rfl, ho8, hb8⟩)
      refine hK.out _ _ ?_ (fun hS => ?_)
      · exact hS.on hb8
      clear hK K
      have hcv := src_stringY ho8
      have HQ := Lib.hid (HF.out.1.trans ((HF.out.2.trans (hb8.mono HF.out.2.size)).mono HF.out.1.size))
      clear ho8 hb8 HL HF
      refine wpAnyH_ready (rs := [10]) (by as_aux_lemma => kernel_rfl) (by simp) ?_
      refine AllReadyH.cons rfl (fun K hK => ?_) AllReadyH.nil
      go_simp
      go_wp2_with (fail)
      refine hK.out _ _ ?_ (fun hS => ?_)
      · exact hS
      clear hK K
      refine wpAnyH_takeE (i := 11) (some 2) (v := ?_) rfl rfl (by as_aux_lemma => kernel_rfl) (by as_aux_lemma => kernel_rfl) (by as_aux_lemma => kernel_rfl) (fun _ _ _ h => h) (Or.inl ⟨by kernel_rfl, ?_⟩) hS ?_
      rotate_left
      · intro w hSw; skip; go_simp
        first | done | with_reducible rfl
      refine wpAnyH_done (by kernel_rfl) ?_ _
      clear hS HS0 hcv
      go_wp2
      go_ret
      exact ⟨rfl, HQ.out⟩

set_option maxHeartbeats 4000000 in
set_option maxRecDepth 100000 in
theorem yEntry_err (s : Sil) (a : Option Addr) (c : Nat) (t o : Int) (w : World) (hm : MtsAt w a s.ms) (hml : s.ms.length ≤ 9223372036854775807) (hid : s.id.size ≤ 9223372036854775807) (hz : ∀ m ∈ s.ms, m.1.size ≤ 9223372036854775807) (he : entryE s t ≠ 0) (n : Nat) (hn : n = s.ms.length) :
    Calls Tryz.prog 24 #[.agg #[.string s.id, .slice a n c, .int .i64 s.st, .int .i64 s.en], .int .i64 t, .int .u16 o] w fun e w' => e = .returned (.tuple #[.agg #[.string ⟨#[]⟩, .int .i64 0, .int .u16 0, .string ⟨#[]⟩, .int .i64 0], .int .i64 (entryE s t)]) ∧ Below w.heap.size w w' := by
  subst hn
  have d1 := (Below.refl w.heap.size w).alloc (Nat.le_refl _) (.cells #[.string s.id, .slice a s.ms.length c, .int .i64 s.st, .int .i64 s.en] 55)
  have d2 := d1.alloc (by simp) (.cells #[.string ⟨#[]⟩, .int .i64 0, .int .u16 0, .string ⟨#[]⟩, .int .i64 0] 60)
  have HC := Lib.hid (yCheck_any s a c _ (hm.below d2 (Nat.le_refl _)) hml hid hz)
  have b2 := EBlk.new (w.alloc (.cells #[.string s.id, .slice a s.ms.length c, .int .i64 s.st, .int .i64 s.en] 55)) zeroE
  rw [World.size_alloc] at b2
  have HB := Lib.hid b2
  clear hid hz
  have HD := Lib.hid d2
  unfold entryE at he ⊢
  by_cases h1 : silE s = 0
  · rw [if_neg (Classical.not_not.2 h1)] at he ⊢
    rw [h1] at HC
    have h2 : t < 0 ∨ 1099511627776 < t := by
      refine Classical.not_not.1 fun h => he ?_
      rw [if_neg h]
    rw [if_pos h2]
    clear h1 he d1 d2 b2 hm hml
    generalize s.ms.length = n at *
    obtain ⟨id, ms, st, en⟩ := s
    dsimp only at HC HB HD ⊢
    rcases h2 with h2 | h2
    · go_enter Tryz.func24, Tryz.ntmps24
      go_wp2_with (go_at_call 26; refine HC.out.mono ?_; rintro e w3 ⟨rfl, q3⟩; refine Hid.out ?_)
      refine Lib.hid ?_
      have b3 := HB.out.on q3
      have k0 := b3.c0
      have k1 := b3.c1
      have k2 := b3.c2
      have k3 := b3.c3
      have k4 := b3.c4
      have f0 := b3.f 0
      have f1 := b3.f 1
      have f2 := b3.f 2
      have f3 := b3.f 3
      have f4 := b3.f 4
      have b4 := b3.store zeroE
      have HQ := Lib.hid (stE_below (HD.out.trans (q3.mono HD.out.size)) (show w.heap.size ≤ w.heap.size + 1 by omega) zeroE)
      have HB4 := Lib.hid b4
      clear b3 b4 q3 HB HD HC
      go_wp2
      refine bodyPost_ret (v := .tuple #[.agg #[.string ⟨#[]⟩, .int .i64 0, .int .u16 0, .string ⟨#[]⟩, .int .i64 0], .int .i64 13]) (by have b5 := HB4.out; have z0 := b5.c0; have z1 := b5.c1; have z2 := b5.c2; have z3 := b5.c3; have z4 := b5.c4; unfold stE zeroE at z0 z1 z2 z3 z4; simp [results, Tryz.results24, go_sem, z0, z1, z2, z3, z4]) rfl ?_
      exact ⟨rfl, HQ.out⟩
    · have h3 : ¬ t < 0 := by omega
      go_enter Tryz.func24, Tryz.ntmps24
      go_wp2_with (go_at_call 26; refine HC.out.mono ?_; rintro e w3 ⟨rfl, q3⟩; refine Hid.out ?_)
      refine Lib.hid ?_
      have b3 := HB.out.on q3
      have k0 := b3.c0
      have k1 := b3.c1
      have k2 := b3.c2
      have k3 := b3.c3
      have k4 := b3.c4
      have f0 := b3.f 0
      have f1 := b3.f 1
      have f2 := b3.f 2
      have f3 := b3.f 3
      have f4 := b3.f 4
      have b4 := b3.store zeroE
      have HQ := Lib.hid (stE_below (HD.out.trans (q3.mono HD.out.size)) (show w.heap.size ≤ w.heap.size + 1 by omega) zeroE)
      have HB4 := Lib.hid b4
      clear b3 b4 q3 HB HD HC
      go_wp2
      refine bodyPost_ret (v := .tuple #[.agg #[.string ⟨#[]⟩, .int .i64 0, .int .u16 0, .string ⟨#[]⟩, .int .i64 0], .int .i64 13]) (by have b5 := HB4.out; have z0 := b5.c0; have z1 := b5.c1; have z2 := b5.c2; have z3 := b5.c3; have z4 := b5.c4; unfold stE zeroE at z0 z1 z2 z3 z4; simp [results, Tryz.results24, go_sem, z0, z1, z2, z3, z4]) rfl ?_
      exact ⟨rfl, HQ.out⟩
  · rw [if_pos h1]
    have hb : ((silE s : Int) != 0) = true := by simpa using h1
    generalize silE s = E at *
    clear h1 he d1 d2 b2 hm hml
    generalize s.ms.length = n at *
    obtain ⟨id, ms, st, en⟩ := s
    dsimp only at HC HB HD ⊢
    go_enter Tryz.func24, Tryz.ntmps24
    go_wp2_with (go_at_call 26; refine HC.out.mono ?_; rintro e w3 ⟨rfl, q3⟩; refine Hid.out ?_)
    refine Lib.hid ?_
    have b3 := HB.out.on q3
    have k0 := b3.c0
    have k1 := b3.c1
    have k2 := b3.c2
    have k3 := b3.c3
    have k4 := b3.c4
    have f0 := b3.f 0
    have f1 := b3.f 1
    have f2 := b3.f 2
    have f3 := b3.f 3
    have f4 := b3.f 4
    have b4 := b3.store zeroE
    have HQ := Lib.hid (stE_below (HD.out.trans (q3.mono HD.out.size)) (show w.heap.size ≤ w.heap.size + 1 by omega) zeroE)
    have HB4 := Lib.hid b4
    clear b3 b4 q3 HB HD HC
    go_wp2
    refine bodyPost_ret (v := .tuple #[.agg #[.string ⟨#[]⟩, .int .i64 0, .int .u16 0, .string ⟨#[]⟩, .int .i64 0], .int .i64 E]) (by have b5 := HB4.out; have z0 := b5.c0; have z1 := b5.c1; have z2 := b5.c2; have z3 := b5.c3; have z4 := b5.c4; unfold stE zeroE at z0 z1 z2 z3 z4; simp [results, Tryz.results24, go_sem, z0, z1, z2, z3, z4]) rfl ?_
    exact ⟨rfl, HQ.out⟩


set_option maxHeartbeats 4000000 in
set_option maxRecDepth 100000 in
theorem yEntry_ok (s : Sil) (a : Option Addr) (c : Nat) (t o : Int) (w : World) (hm : MtsAt w a s.ms) (he : entryE s t = 0) (n : Nat) (hn : n = s.ms.length) :
    Calls Tryz.prog 24 #[.agg #[.string s.id, .slice a n c, .int .i64 s.st, .int .i64 s.en], .int .i64 t, .int .u16 o] w fun e w' => e = .returned (.tuple #[.agg #[.string (keyS s.id), .int .i64 t, .int .u16 o, .string ⟨(layS s.ms s.st s.en).toArray⟩, .int .i64 (max s.en t)], .int .i64 0]) ∧ Below w.heap.size w w' := by
  obtain ⟨hs0, ht0, ht1⟩ := entryE_zero he
  obtain ⟨hnm, hl8, hlp, hms, hst0, hse, hen⟩ := silE_zero hs0
  have d1 := (Below.refl w.heap.size w).alloc (Nat.le_refl _) (.cells #[.string s.id, .slice a n c, .int .i64 s.st, .int .i64 s.en] 55)
  have d2 := d1.alloc (by simp) (.cells #[.string ⟨#[]⟩, .int .i64 0, .int .u16 0, .string ⟨#[]⟩, .int .i64 0] 60)
  have hC := yCheck_any s a c _ (hm.below d2 (Nat.le_refl _)) (by omega) (by have := hnm.1.2; omega) (fun m hx => by have := (good_of (hms m hx)).1; omega)
  rw [hs0, ← hn] at hC
  have HC := Lib.hid hC
  have b1 := (SBlk.new w s.id a n c s.st s.en).on ((Below.refl _ _).alloc (Nat.le_refl _) (.cells #[.string ⟨#[]⟩, .int .i64 0, .int .u16 0, .string ⟨#[]⟩, .int .i64 0] 60))
  have b2 := EBlk.new (w.alloc (.cells #[.string s.id, .slice a n c, .int .i64 s.st, .int .i64 s.en] 55)) zeroE
  rw [World.size_alloc] at b2
  have HB := Lib.hid (And.intro b1 b2)
  have HD := Lib.hid d2
  have HX := Lib.hid (And.intro hl8 (And.intro (fun m hx => good_of (hms m hx)) (And.intro (show -9223372036854775808 ≤ s.st ∧ s.st ≤ 9223372036854775807 by omega) (show -9223372036854775808 ≤ s.en ∧ s.en ≤ 9223372036854775807 by omega))))
  have HM := Lib.hid hm
  have HN := Lib.hid hn
  have HKS := Lib.hid (show s.id.size ≤ 16 from hnm.1.2)
  have h3 : ¬ t < 0 := by omega
  have h4 : ¬ 1099511627776 < t := by omega
  clear d1 d2 hC b1 b2 hm hn he hs0 hnm hl8 hlp hms hst0 hse hen ht0 ht1
  obtain ⟨id, ms, st, en⟩ := s
  dsimp only at *
  go_enter Tryz.func24, Tryz.ntmps24
  go_wp2_with (go_at_call 26; refine HC.out.mono ?_; rintro e w3 ⟨rfl, q3⟩; refine Hid.out ?_)
  refine Lib.hid ?_
  obtain ⟨b1, b2⟩ := HB.out
  have c1 := b1.on q3
  have c2 := b2.on q3
  have D3 : Below w.heap.size w w3 := HD.out.trans (q3.mono HD.out.size)
  have HD3 := Lib.hid D3
  clear b1 b2 q3 HB HD HC
  go_wp2_with fail
  have hA := yvalue_any ⟨id, ms, st, en⟩ a c w3.drew (HM.out.below D3.drew (Nat.le_refl _)) HX.out.1 HX.out.2.1 HX.out.2.2.1 HX.out.2.2.2 n HN.out
  dsimp only at hA
  obtain ⟨LV, hLV⟩ : ∃ LV, LV = layS ms st en := ⟨_, rfl⟩
  rw [← hLV] at hA
  have HLV := Lib.hid hLV
  have HA := Lib.hid hA
  clear hA D3 hLV
  refine wp_region_any (by kernel_rfl) ?_
  change wpAny _ _ _ _ _ _ _ (World.drew _)
  have hS : (fun w' : World => SBlk w' w.heap.size id a n c st en ∧ ∃ y, EBlk w' (w.heap.size + 1) y) w3.drew := ⟨c1, zeroE, c2⟩
  refine wpAny_of_held (S := fun w' => SBlk w' w.heap.size id a n c st en ∧ ∃ y, EBlk w' (w.heap.size + 1) y) _ _ _ _ ?_
  clear c1 c2
  refine wpAnyH_takeE (i := 0) (some 24) (v := ?_) rfl rfl (by as_aux_lemma => kernel_rfl) (by as_aux_lemma => kernel_rfl) (by as_aux_lemma => kernel_rfl) (fun _ _ _ h => h) (Or.inl ⟨by kernel_rfl, ?_⟩) hS ?_
  rotate_left
  · intro w hSw; have hks : ¬ 9223372036854775807 < 1 + id.size := (by have := HKS.out; omega); have k0 := hSw.1.c0; have k1 := hSw.1.c1; have k2 := hSw.1.c2; have k3 := hSw.1.c3; go_simp
    first | done | with_reducible rfl
  refine wpAnyH_takeE (i := 1) (some 25) (v := ?_) rfl rfl (by as_aux_lemma => kernel_rfl) (by as_aux_lemma => kernel_rfl) (by as_aux_lemma => kernel_rfl) (fun _ _ _ h => h) (Or.inl ⟨by kernel_rfl, ?_⟩) hS ?_
  rotate_left
  · intro w hSw; have hks : ¬ 9223372036854775807 < 1 + id.size := (by have := HKS.out; omega); have k0 := hSw.1.c0; have k1 := hSw.1.c1; have k2 := hSw.1.c2; have k3 := hSw.1.c3; go_simp
    first | done | with_reducible rfl
  refine wpAnyH_takeE (i := 2) (some 26) (v := ?_) rfl rfl (by as_aux_lemma => kernel_rfl) (by as_aux_lemma => kernel_rfl) (by as_aux_lemma => kernel_rfl) (fun _ _ _ h => h) (Or.inl ⟨by kernel_rfl, ?_⟩) hS ?_
  rotate_left
  · intro w hSw; have hks : ¬ 9223372036854775807 < 1 + id.size := (by have := HKS.out; omega); have k0 := hSw.1.c0; have k1 := hSw.1.c1; have k2 := hSw.1.c2; have k3 := hSw.1.c3; go_simp
    first | done | with_reducible rfl
  refine wpAnyH_takeE (i := 3) (some 27) (v := ?_) rfl rfl (by as_aux_lemma => kernel_rfl) (by as_aux_lemma => kernel_rfl) (by as_aux_lemma => kernel_rfl) (fun _ _ _ h => h) (Or.inl ⟨by kernel_rfl, ?_⟩) hS ?_
  rotate_left
  · intro w hSw; have hks : ¬ 9223372036854775807 < 1 + id.size := (by have := HKS.out; omega); have k0 := hSw.1.c0; have k1 := hSw.1.c1; have k2 := hSw.1.c2; have k3 := hSw.1.c3; go_simp
    first | done | with_reducible rfl
  refine wpAnyH_takeE (i := 4) (some 28) (v := ?_) rfl rfl (by as_aux_lemma => kernel_rfl) (by as_aux_lemma => kernel_rfl) (by as_aux_lemma => kernel_rfl) (fun _ _ _ h => h) (Or.inl ⟨by kernel_rfl, ?_⟩) hS ?_
  rotate_left
  · intro w hSw; have hks : ¬ 9223372036854775807 < 1 + id.size := (by have := HKS.out; omega); have k0 := hSw.1.c0; have k1 := hSw.1.c1; have k2 := hSw.1.c2; have k3 := hSw.1.c3; go_simp
    first | done | with_reducible rfl
  refine wpAnyH_takeE (i := 5) (some 29) (v := ?_) rfl rfl (by as_aux_lemma => kernel_rfl) (by as_aux_lemma => kernel_rfl) (by as_aux_lemma => kernel_rfl) (fun _ _ _ h => h) (Or.inl ⟨by kernel_rfl, ?_⟩) hS ?_
  rotate_left
  · intro w hSw; have hks : ¬ 9223372036854775807 < 1 + id.size := (by have := HKS.out; omega); have k0 := hSw.1.c0; have k1 := hSw.1.c1; have k2 := hSw.1.c2; have k3 := hSw.1.c3; go_simp
    first | done | with_reducible rfl
  refine wpAnyH_takeE (i := 7) (some 31) (v := ?_) rfl rfl (by as_aux_lemma => kernel_rfl) (by as_aux_lemma => kernel_rfl) (by as_aux_lemma => kernel_rfl) (fun _ _ _ h => h) (Or.inl ⟨by kernel_rfl, ?_⟩) hS ?_
  rotate_left
  · intro w hSw; have hks : ¬ 9223372036854775807 < 1 + id.size := (by have := HKS.out; omega); have k0 := hSw.1.c0; have k1 := hSw.1.c1; have k2 := hSw.1.c2; have k3 := hSw.1.c3; go_simp
    first | done | with_reducible rfl
  refine wpAnyH_takeE (i := 8) (some 32) (v := ?_) rfl rfl (by as_aux_lemma => kernel_rfl) (by as_aux_lemma => kernel_rfl) (by as_aux_lemma => kernel_rfl) (fun _ _ _ h => h) (Or.inl ⟨by kernel_rfl, ?_⟩) hS ?_
  rotate_left
  · intro w hSw; have hks : ¬ 9223372036854775807 < 1 + id.size := (by have := HKS.out; omega); have k0 := hSw.1.c0; have k1 := hSw.1.c1; have k2 := hSw.1.c2; have k3 := hSw.1.c3; go_simp
    first | done | with_reducible rfl
  refine wpAnyH_takeE (i := 9) (some 33) (v := ?_) rfl rfl (by as_aux_lemma => kernel_rfl) (by as_aux_lemma => kernel_rfl) (by as_aux_lemma => kernel_rfl) (fun _ _ _ h => h) (Or.inl ⟨by kernel_rfl, ?_⟩) hS ?_
  rotate_left
  · intro w hSw; have hks : ¬ 9223372036854775807 < 1 + id.size := (by have := HKS.out; omega); have k0 := hSw.1.c0; have k1 := hSw.1.c1; have k2 := hSw.1.c2; have k3 := hSw.1.c3; go_simp
    first | done | with_reducible rfl
  refine wpAnyH_takeE (i := 10) (some 34) (v := ?_) rfl rfl (by as_aux_lemma => kernel_rfl) (by as_aux_lemma => kernel_rfl) (by as_aux_lemma => kernel_rfl) (fun _ _ _ h => h) (Or.inl ⟨by kernel_rfl, ?_⟩) hS ?_
  rotate_left
  · intro w hSw; have hks : ¬ 9223372036854775807 < 1 + id.size := (by have := HKS.out; omega); have k0 := hSw.1.c0; have k1 := hSw.1.c1; have k2 := hSw.1.c2; have k3 := hSw.1.c3; go_simp
    first | done | with_reducible rfl
  refine wpAnyH_ready (rs := [6]) (by as_aux_lemma => kernel_rfl) (by simp) ?_
  refine AllReadyH.cons rfl (fun K hK => ?_) AllReadyH.nil
  go_simp
  go_wp2_with (go_at_call 69; refine HA.out.mono ?_; rintro e w4 ⟨rfl, q4⟩)
  refine hK.out _ _ ?_ (fun hS => ?_)
  · exact ⟨hS.1.on q4, hS.2.choose, hS.2.choose_spec.on q4⟩
  clear hK K
  refine wpAnyH_takeE (i := 11) (some 35) (v := ?_) rfl rfl (by as_aux_lemma => kernel_rfl) (by as_aux_lemma => kernel_rfl) (by as_aux_lemma => kernel_rfl) (fun _ _ _ h => h) (Or.inl ⟨by kernel_rfl, ?_⟩) hS ?_
  rotate_left
  · intro w hSw; skip; go_simp
    first | done | with_reducible rfl
  obtain ⟨hs1, y, hy⟩ := hS
  have z0 := hy.c0
  have z1 := hy.c1
  have z2 := hy.c2
  have z3 := hy.c3
  have z4 := hy.c4
  have f0 := hy.f 0
  have f1 := hy.f 1
  have f2 := hy.f 2
  have f3 := hy.f 3
  have f4 := hy.f 4
  have hst := hy.store ⟨keyS id, t, o, ⟨LV.toArray⟩, max en t⟩
  have hs2 : SBlk (stE w4 (w.heap.size + 1) ⟨keyS id, t, o, ⟨LV.toArray⟩, max en t⟩) w.heap.size id a n c st en := ((stE_below (Below.refl (w.heap.size + 1) w4) (Nat.le_refl _) _).block w.heap.size (by omega)).trans hs1
  have HQ := Lib.hid (stE_below (HD3.out.drew.trans (q4.mono (HD3.out.drew).size)) (show w.heap.size ≤ w.heap.size + 1 by omega) ⟨keyS id, t, o, ⟨LV.toArray⟩, max en t⟩)
  have HST := Lib.hid (And.intro hs2 hst)
  clear hs1 hy hst hs2 q4 HA HD3 HM HX HN
  refine wpAnyH_ready (rs := [12]) (by as_aux_lemma => kernel_rfl) (by simp) ?_
  refine AllReadyH.cons rfl (fun K hK => ?_) AllReadyH.nil
  go_simp
  refine hK.out _ _ ?_ (fun hS => ?_)
  · exact ⟨HST.out.1, _, HST.out.2⟩
  clear hK K z0 z1 z2 z3 z4 f0 f1 f2 f3 f4
  have HF : Hid (EBlk (((((w4.setCell ⟨w.heap.size + 1, 0, none⟩ (.string (⟨#[115]⟩ ++ id))).setCell ⟨w.heap.size + 1, 1, none⟩ (.int .i64 t)).setCell ⟨w.heap.size + 1, 2, none⟩ (.int .u16 o)).setCell ⟨w.heap.size + 1, 3, none⟩ (.string ⟨LV.toArray⟩)).setCell ⟨w.heap.size + 1, 4, none⟩ (.int .i64 (max en t))) (w.heap.size + 1) ⟨keyS id, t, o, ⟨LV.toArray⟩, max en t⟩ ∧ Below w.heap.size w (((((w4.setCell ⟨w.heap.size + 1, 0, none⟩ (.string (⟨#[115]⟩ ++ id))).setCell ⟨w.heap.size + 1, 1, none⟩ (.int .i64 t)).setCell ⟨w.heap.size + 1, 2, none⟩ (.int .u16 o)).setCell ⟨w.heap.size + 1, 3, none⟩ (.string ⟨LV.toArray⟩)).setCell ⟨w.heap.size + 1, 4, none⟩ (.int .i64 (max en t)))) := Lib.hid ⟨HST.out.2, HQ.out⟩
  clear HST HQ
  generalize ((((w4.setCell ⟨w.heap.size + 1, 0, none⟩ (.string (⟨#[115]⟩ ++ id))).setCell ⟨w.heap.size + 1, 1, none⟩ (.int .i64 t)).setCell ⟨w.heap.size + 1, 2, none⟩ (.int .u16 o)).setCell ⟨w.heap.size + 1, 3, none⟩ (.string ⟨LV.toArray⟩)).setCell ⟨w.heap.size + 1, 4, none⟩ (.int .i64 (max en t)) = w5 at *
  refine wpAnyH_takeE (i := 13) (some 7) (v := ?_) rfl rfl (by as_aux_lemma => kernel_rfl) (by as_aux_lemma => kernel_rfl) (by as_aux_lemma => kernel_rfl) (fun _ _ _ h => h) (Or.inl ⟨by kernel_rfl, ?_⟩) hS ?_
  rotate_left
  · intro w hSw; skip; go_simp
    first | done | with_reducible rfl
  refine wpAnyH_done (by kernel_rfl) ?_ _
  clear hS
  have z0 := HF.out.1.c0
  have z1 := HF.out.1.c1
  have z2 := HF.out.1.c2
  have z3 := HF.out.1.c3
  have z4 := HF.out.1.c4
  dsimp only at z0 z1 z2 z3 z4
  go_wp2
  refine bodyPost_ret (v := .tuple #[.agg #[.string (keyS id), .int .i64 t, .int .u16 o, .string ⟨LV.toArray⟩, .int .i64 (max en t)], .int .i64 0]) (by simp [results, Tryz.results24, go_sem, z0, z1, z2, z3, z4]) rfl ?_
  exact ⟨by rw [HLV.out], HF.out.2⟩

end Go.Proofs.YtcngifkoopcmeaaGreatDoor
