/-
  What the reference's Read and Text make of a text and a matcher.
-/
import Derived.Test.YtbkejafjlapmnaaDoorM10
import Derived.Test.YtbkejafjlapmnaaDoorM6
import Derived.Deep.RegionHeld3
namespace Go.Proofs.YtbkejafjlapmnaaDoor
open Go.RowKit Go.Shelf

theorem rdM_size {s : ByteArray} {k o : Nat} (hk : k ≤ s.size) : (rdM s k o).1.size = k := by
  show (s.extract 0 k).size = k
  rw [ByteArray.size_extract]
  omega
theorem rdOk_at {s : ByteArray} {k o : Nat} (hk : k ≤ s.size) (h : rdOk s k o) : Lib.indexAny s.data.toList eqBang.data.toList = (k : Int) := by
  have h1 := (rdOk_of h.2 (rd_text h.1)).1
  rw [rdM_size hk] at h1
  exact h1
theorem first_of {s : ByteArray} {k o : Nat} (hk : k ≤ s.size) (ho : o ≤ 3) (h : rdOk s k o) (h2 : o = 0 → ¬ rdOk s k 2) : First s (rdM s k o) := by
  refine ⟨h.2, rd_text h.1, fun h0 m' a b => ?_⟩
  obtain ⟨i1, r1, -⟩ := rdOk_of a b
  rw [rdOk_at hk h] at i1
  have e : m'.1.size = k := (Int.ofNat.inj i1).symm
  rw [e] at r1
  have h0' : o = 0 := h0
  rcases sign_two ho (mErr_zero a).2.1 h r1 with q | ⟨-, q⟩ | ⟨q, -⟩
  · omega
  · rw [q] at r1; exact absurd r1 (h2 h0')
  · omega
theorem noFirst_of {s : ByteArray} (h : ∀ k o, 1 ≤ k → k ≤ 16 → k ≤ s.size → o ≤ 3 → ¬ rdOk s k o) : NoFirst s := fun m a b => by
  obtain ⟨-, r1, -⟩ := rdOk_of a b
  obtain ⟨⟨⟨k0, k1⟩, -⟩, ho, -, -⟩ := mErr_zero a
  have hs := text_size m
  rw [b] at hs
  exact h m.1.size m.2.1 (by omega) k1 (by omega) ho r1

/-- The comparisons in the order in which the reference tries them. -/
def opRef (i : Nat) : Nat := if i = 0 then 2 else if i = 1 then 3 else if i = 2 then 1 else 0
theorem opRef_le (i : Nat) : opRef i ≤ 3 := by unfold opRef; split <;> (try split) <;> (try split) <;> decide
theorem opRef_of (o : Nat) (h : o ≤ 3) : ∃ j, j < 4 ∧ opRef j = o := by
  rcases (by omega : o = 0 ∨ o = 1 ∨ o = 2 ∨ o = 3) with rfl | rfl | rfl | rfl
  · exact ⟨3, by decide, rfl⟩
  · exact ⟨2, by decide, rfl⟩
  · exact ⟨0, by decide, rfl⟩
  · exact ⟨1, by decide, rfl⟩
theorem opRef_zero {i : Nat} (hi : i < 4) (h : opRef i = 0) : i = 3 := by
  rcases (by omega : i = 0 ∨ i = 1 ∨ i = 2 ∨ i = 3) with rfl | rfl | rfl | rfl
  · cases h
  · cases h
  · cases h
  · rfl
/-- A sign stands at a place of a text: the cut, by its bytes. -/
theorem cut_at (s g : ByteArray) (k : Nat) : cutB (s.extract k s.size) g = ((s.extract k (k + g.size)).toList == g.toList) := by
  rw [Bool.eq_iff_iff, cutB_iff, beq_iff_eq, Lib.extract_data]
  have h2 : List.take (s.size - k) (List.drop k s.data.toList) = List.drop k s.data.toList := List.take_of_length_le (by rw [List.length_drop, Lib.size_eq]; exact Nat.le_refl _)
  rw [h2]
  constructor
  · rintro ⟨r, hr⟩
    have : s.extract k (k + g.size) = g := data_ext (by
      rw [Lib.extract_data, hr, show k + g.size - k = g.data.toList.length by rw [← Lib.size_eq]; omega]
      simp)
    rw [this]
  · intro h
    have h3 : (s.extract k (k + g.size)).data.toList = g.data.toList := by
      have := congrArg (fun l : List UInt8 => l) h
      simpa [ByteArray.toList_eq] using this
    rw [Lib.extract_data] at h3
    refine ⟨List.drop (k + g.size - k) (List.drop k s.data.toList), ?_⟩
    rw [← h3, List.take_append_drop]
theorem cut_short (s g : ByteArray) (k : Nat) (hk : s.size < k + g.size) (hg : 0 < g.size) : cutB (s.extract k s.size) g = false := by
  rw [Bool.eq_false_iff]
  intro h
  obtain ⟨r, hr⟩ := (cutB_iff _ _).1 h
  have h1 := congrArg List.length hr
  rw [List.length_append, ← Lib.size_eq, ← Lib.size_eq, ByteArray.size_extract] at h1
  omega
theorem cutV_at (s g : ByteArray) (k : Nat) (h : cutB (s.extract k s.size) g = true) : cutV (s.extract k s.size) g = s.extract (k + g.size) s.size := by
  obtain ⟨r, hr⟩ := (cutB_iff _ _).1 h
  refine data_ext ?_
  rw [cutV_data hr]
  have h2 : ∀ j, List.take (s.size - j) (List.drop j s.data.toList) = List.drop j s.data.toList := fun j => List.take_of_length_le (by rw [List.length_drop, Lib.size_eq]; exact Nat.le_refl _)
  rw [Lib.extract_data, h2] at hr
  rw [Lib.extract_data, h2, ← List.drop_drop, hr, Lib.size_eq g]
  simp
theorem signL_size (o : Nat) (h : o ≤ 3) : 0 < (signL o).size ∧ (signL o).size ≤ 2 := by
  rcases (by omega : o = 0 ∨ o = 1 ∨ o = 2 ∨ o = 3) with rfl | rfl | rfl | rfl <;> decide

set_option maxHeartbeats 1000000 in
theorem nsign_any (o : Nat) (w : World) : Calls Tryd.prog 34 #[.int .u8 (o : Int)] w fun e w' => e = .returned (.string (signL o)) ∧ w' = w := by
  by_cases h : o < 4
  · rcases (by omega : o = 0 ∨ o = 1 ∨ o = 2 ∨ o = 3) with rfl | rfl | rfl | rfl
    all_goals
      clear h
      go_enter Tryd.func34, Tryd.ntmps34
      go_wp2
      go_ret
      exact ⟨rfl, rfl⟩
  · have HS : Hid (signL o = ⟨#[]⟩) := Lib.hid (by unfold signL; rw [if_neg (by omega), if_neg (by omega), if_neg (by omega), if_neg (by omega)])
    have h0 : ((o : Int) == 0) = false := by rw [beq_eq_false_iff_ne]; omega
    have h1 : ((o : Int) == 1) = false := by rw [beq_eq_false_iff_ne]; omega
    have h2 : ((o : Int) == 2) = false := by rw [beq_eq_false_iff_ne]; omega
    have h3 : ((o : Int) == 3) = false := by rw [beq_eq_false_iff_ne]; omega
    go_enter Tryd.func34, Tryd.ntmps34
    go_wp2
    go_ret
    exact ⟨by rw [HS.out]; rfl, rfl⟩

set_option maxHeartbeats 1000000 in
theorem nText_any (n : ByteArray) (o : Nat) (v : ByteArray) (w : World) (hsz : n.size + v.size + 2 ≤ 9223372036854775807) :
    Calls Tryd.prog 13 #[.agg #[.string n, .int .u8 (o : Int), .string v]] w fun e w' => e = .returned (.string (textM (n, o, v))) ∧ Below w.heap.size w w' := by
  have HS := Lib.hid (fun u => nsign_any o u)
  have hl : (signL o).size ≤ 2 := by unfold signL; split <;> (try split) <;> (try split) <;> (try split) <;> decide
  unfold textM
  simp only
  generalize signL o = g at *
  go_enter Tryd.func13, Tryd.ntmps13
  go_wp2_with fail
  go_quiet ((go_at_call 34; exact Calls.quiet_of_same (HS.out _)))
  go_wp2
  go_ret
  exact ⟨rfl, below_drewN ((Below.refl _ _).alloc (Nat.le_refl _) _) _⟩

/-- The result's place and the list of comparisons of the reference's Read. -/
def RBlk (w : World) (B : Nat) : Prop := w.heap[B]? = some (.cells #[.string ⟨#[]⟩, .int .u8 0, .string ⟨#[]⟩] 24) ∧ w.heap[B + 1]? = some (.cells #[.int .u8 2, .int .u8 3, .int .u8 1, .int .u8 0] 22)
theorem RBlk.below {w w' : World} {B : Nat} (h : RBlk w B) (hb : Below w.heap.size w w') : RBlk w' B :=
  ⟨(hb.block B (Array.getElem?_eq_some_iff.1 h.1).1).trans h.1, (hb.block (B + 1) (Array.getElem?_eq_some_iff.1 h.2).1).trans h.2⟩
theorem RBlk.op {w : World} {B : Nat} (h : RBlk w B) (i : Nat) (hi : i < 4) : w.cell? ⟨B + 1, i, none⟩ = some (.int .u8 (opRef i : Int)) := by
  rcases (by omega : i = 0 ∨ i = 1 ∨ i = 2 ∨ i = 3) with rfl | rfl | rfl | rfl <;> simp [World.cell?, h.2, opRef]

set_option maxRecDepth 20000 in
set_option maxHeartbeats 4000000 in
theorem nRead_reads (s : ByteArray) (w : World) (hs : s.size ≤ 200) :
    Calls Tryd.prog 11 #[.string s] w fun e w' => ReadsAs s e ∧ Below w.heap.size w w' := by
  have HC := Lib.hid (fun n o v u (hn : n.size ≤ 9223372036854775807) => nCheck_any n o v u hn)
  have HS := Lib.hid (fun o u => nsign_any o u)
  have HG := Lib.hid signL_size
  have hbA := Lib.hid (fun (o : Obj) => (Below.refl w.heap.size w).alloc (Nat.le_refl _) o)
  go_enter Tryd.func11, Tryd.ntmps11
  go_wp2
  go_loopw [5] (fun i wr => ∃ n : Nat, 1 ≤ n ∧ n ≤ 17 ∧ n ≤ s.size + 1 ∧ i = .int .i64 n ∧ Below w.heap.size w wr ∧ RBlk wr w.heap.size ∧ Hid (∀ k o, 1 ≤ k → k < n → o ≤ 3 → ¬ rdOk s k o)) (fun i _ => 17 - (intOf i).toNat)
  case atStart => exact ⟨1, by omega, by omega, by omega, by go_num, (hbA.out _).alloc (by simp) _, ⟨(((Below.refl _ _).alloc (Nat.le_refl _) _).block w.heap.size (by simp)).trans (heap_new' w _), by simpa using heap_new' (w.alloc (.cells #[.string ⟨#[]⟩, .int .u8 0, .string ⟨#[]⟩] 24)) _⟩, Lib.hid fun k o h1 h2 => absurd h2 (by omega)⟩
  case round =>
    obtain ⟨n, h1, h17, hns, rfl, hb, hR, HN⟩ := hrel
    by_cases hex : n ≤ s.size ∧ n ≤ 16
    · have e1 : (n : Int) ≤ (s.size : Int) := by omega
      have e2 : (n : Int) ≤ 16 := by omega
      go_wp2
      go_loopw [6] (fun i wr2 => ∃ j : Nat, j ≤ 4 ∧ i = .int .i64 j ∧ Below w.heap.size w wr2 ∧ RBlk wr2 w.heap.size ∧ Hid (∀ j', j' < j → ¬ rdOk s n (opRef j'))) (fun i _ => 4 - (intOf i).toNat)
      case atStart => exact ⟨0, by omega, rfl, hb, hR, Lib.hid fun j hj => absurd hj (Nat.not_lt_zero _)⟩
      case round =>
        clear hb hR
        obtain ⟨j, hj4, rfl, hb, hR, HJ⟩ := hrel
        by_cases h4 : j = 4
        · subst h4
          have HN2 : Hid (∀ k o, 1 ≤ k → k < n + 1 → o ≤ 3 → ¬ rdOk s k o) := Lib.hid fun k o hk1 hk2 ho => by
            by_cases e : k = n
            · subst e
              obtain ⟨j, hj, rfl⟩ := opRef_of o ho
              exact HJ.out j hj
            · exact HN.out k o hk1 (by omega) ho
          clear HN HJ
          go_wp2
          go_roundw
          case rel => exact ⟨n + 1, by omega, by omega, by omega, by go_num, hb, hR, HN2⟩
          case measure => simp [intOf]; omega
        · have hj' : (j : Int) < 4 := by omega
          have hop := hR.op j (by omega)
          obtain ⟨hg0, hg2⟩ := HG.out _ (opRef_le j)
          by_cases hlen : s.size < n + (signL (opRef j)).size
          · have hlen' : (s.size : Int) < (n : Int) + ((signL (opRef j)).size : Int) := by omega
            have HJ2 := Lib.hid (upto_succ HJ.out (fun h => by have h1 := h.1; rw [cut_short s _ n hlen hg0] at h1; cases h1))
            have HS1 := Lib.hid (fun u => HS.out (opRef j) u)
            clear HJ hlen HG
            generalize signL (opRef j) = g at *
            generalize opRef j = o at *
            go_wp2_with (go_at_call 34; refine (HS1.out _).mono ?_; rintro e w1 ⟨rfl, rfl⟩)
            go_roundw
            case rel => exact ⟨j + 1, by omega, by go_num, hb, hR, HJ2⟩
            case measure => simp [intOf]; omega
          · have hlen' : ¬ (s.size : Int) < (n : Int) + ((signL (opRef j)).size : Int) := by omega
            cases hB : ((s.extract n (n + (signL (opRef j)).size)).toList == (signL (opRef j)).toList) with
            | false =>
              have HJ2 := Lib.hid (upto_succ HJ.out (fun h => by have h1 := h.1; rw [cut_at, hB] at h1; cases h1))
              have HS1 := Lib.hid (fun u => HS.out (opRef j) u)
              clear HJ hlen HG
              generalize signL (opRef j) = g at *
              generalize opRef j = o at *
              go_wp2_with (go_at_call 34; refine (HS1.out _).mono ?_; rintro e w1 ⟨rfl, rfl⟩)
              go_roundw
              case rel => exact ⟨j + 1, by omega, by go_num, hb, hR, HJ2⟩
              case measure => simp [intOf]; omega
            | true =>
              have hcB : cutB (s.extract n s.size) (signL (opRef j)) = true := by rw [cut_at]; exact hB
              have HM : Hid (rdM s n (opRef j) = (s.extract 0 n, opRef j, s.extract (n + (signL (opRef j)).size) s.size)) := Lib.hid (by unfold rdM; rw [cutV_at _ _ _ hcB])
              have HS1 := Lib.hid (fun u => HS.out (opRef j) u)
              have hns0 : (s.extract 0 n).size ≤ 9223372036854775807 := by rw [ByteArray.size_extract]; omega
              have HC1 := Lib.hid (fun u => HC.out (s.extract 0 n) (opRef j) (s.extract (n + (signL (opRef j)).size) s.size) u hns0)
              rw [← HM.out] at HC1
              have hsz := (Array.getElem?_eq_some_iff.1 hR.1).1
              have hbN := Lib.hid (fun (o : Obj) => hb.alloc (Nat.le_of_lt hsz) o)
              have hRN := Lib.hid (fun (o : Obj) => hR.below ((Below.refl _ _).alloc (Nat.le_refl _) o))
              have HYes : Hid (mErr (rdM s n (opRef j)) = 0 → First s (s.extract 0 n, opRef j, s.extract (n + (signL (opRef j)).size) s.size)) := Lib.hid fun hE => by
                rw [← HM.out]
                exact first_of (by omega) (opRef_le j) ⟨hcB, hE⟩ fun h0 => by
                  have h3 := opRef_zero (by omega) h0
                  subst h3
                  exact HJ.out 0 (by omega)
              have HNo : Hid (mErr (rdM s n (opRef j)) ≠ 0 → ∀ j', j' < j + 1 → ¬ rdOk s n (opRef j')) := Lib.hid fun hE => upto_succ HJ.out (fun h => hE h.2)
              have hsz1 := (Array.getElem?_eq_some_iff.1 hR.2).1
              clear HJ hlen HG HM HC hcB
              generalize mErr (rdM s n (opRef j)) = E at *
              generalize signL (opRef j) = g at *
              generalize opRef j = o at *
              have hwr : IntKind.i64.wrap ((n : Int) + (g.size : Int)) = (n : Int) + (g.size : Int) := by rw [IntKind.wrap_i64]; omega
              have hw2 : 0 ≤ (n : Int) + (g.size : Int) ∧ (n : Int) + (g.size : Int) ≤ (s.size : Int) := by omega
              have hw3 : ((n : Int) + (g.size : Int)).toNat = n + g.size := by omega
              go_wp2_with (go_at_call 34; refine (HS1.out _).mono ?_; rintro e w1 ⟨rfl, rfl⟩)
              refine wp_region_any (by kernel_rfl) ?_
              change wpAny _ _ _ _ _ _ _ (World.drew _)
              have hS : (fun w' : World => w'.cell? ⟨w.heap.size + 1, j, none⟩ = some (.int .u8 (o : Int))) w1.drew := hop
              refine wpAny_of_held (S := fun w' => w'.cell? ⟨w.heap.size + 1, j, none⟩ = some (.int .u8 (o : Int))) _ _ _ _ ?_
              refine wpAnyH_take (i := 0) (v := ?_) rfl (by as_aux_lemma => kernel_rfl) (by as_aux_lemma => kernel_rfl) (by as_aux_lemma => kernel_rfl) (fun _ _ _ h => h) (Or.inl ⟨by kernel_rfl, ?_⟩) hS ?_
              rotate_left
              · intro w hSw; have e1 := hSw; go_simp; try simp only [hwr, hw2, hw3, and_self, if_true]
                first | done | with_reducible rfl
              skip
              refine wpAnyH_take (i := 1) (v := ?_) rfl (by as_aux_lemma => kernel_rfl) (by as_aux_lemma => kernel_rfl) (by as_aux_lemma => kernel_rfl) (fun _ _ _ h => h) (Or.inl ⟨by kernel_rfl, ?_⟩) hS ?_
              rotate_left
              · intro w hSw; have e1 := hSw; go_simp; try simp only [hwr, hw2, hw3, and_self, if_true]
                first | done | with_reducible rfl
              skip
              refine wpAnyH_take (i := 2) (v := ?_) rfl (by as_aux_lemma => kernel_rfl) (by as_aux_lemma => kernel_rfl) (by as_aux_lemma => kernel_rfl) (fun _ _ _ h => h) (Or.inl ⟨by kernel_rfl, ?_⟩) hS ?_
              rotate_left
              · intro w hSw; have e1 := hSw; go_simp; try simp only [hwr, hw2, hw3, and_self, if_true]
                first | done | with_reducible rfl
              skip
              refine wpAnyH_take (i := 3) (v := ?_) rfl (by as_aux_lemma => kernel_rfl) (by as_aux_lemma => kernel_rfl) (by as_aux_lemma => kernel_rfl) (fun _ _ _ h => h) (Or.inl ⟨by kernel_rfl, ?_⟩) hS ?_
              rotate_left
              · intro w hSw; have e1 := hSw; go_simp; try simp only [hwr, hw2, hw3, and_self, if_true]
                first | done | with_reducible rfl
              skip
              refine wpAnyH_take (i := 4) (v := ?_) rfl (by as_aux_lemma => kernel_rfl) (by as_aux_lemma => kernel_rfl) (by as_aux_lemma => kernel_rfl) (fun _ _ _ h => h) (Or.inl ⟨by kernel_rfl, ?_⟩) hS ?_
              rotate_left
              · intro w hSw; have e1 := hSw; go_simp; try simp only [hwr, hw2, hw3, and_self, if_true]
                first | done | with_reducible rfl
              skip
              refine wpAnyH_take (i := 5) (v := ?_) rfl (by as_aux_lemma => kernel_rfl) (by as_aux_lemma => kernel_rfl) (by as_aux_lemma => kernel_rfl) (fun _ _ _ h => h) (Or.inl ⟨by kernel_rfl, ?_⟩) hS ?_
              rotate_left
              · intro w hSw; have e1 := hSw; go_simp; try simp only [hwr, hw2, hw3, and_self, if_true]
                first | done | with_reducible rfl
              skip
              refine wpAnyH_take (i := 6) (v := ?_) rfl (by as_aux_lemma => kernel_rfl) (by as_aux_lemma => kernel_rfl) (by as_aux_lemma => kernel_rfl) (fun _ _ _ h => h) (Or.inl ⟨by kernel_rfl, ?_⟩) hS ?_
              rotate_left
              · intro w hSw; have e1 := hSw; go_simp; try simp only [hwr, hw2, hw3, and_self, if_true]
                first | done | with_reducible rfl
              skip
              refine wpAnyH_take (i := 7) (v := ?_) rfl (by as_aux_lemma => kernel_rfl) (by as_aux_lemma => kernel_rfl) (by as_aux_lemma => kernel_rfl) (fun _ _ _ h => h) (Or.inl ⟨by kernel_rfl, ?_⟩) hS ?_
              rotate_left
              · intro w hSw; have e1 := hSw; go_simp; try simp only [hwr, hw2, hw3, and_self, if_true]
                first | done | with_reducible rfl
              skip
              refine wpAnyH_take (i := 8) (v := ?_) rfl (by as_aux_lemma => kernel_rfl) (by as_aux_lemma => kernel_rfl) (by as_aux_lemma => kernel_rfl) (fun _ _ _ h => h) (Or.inl ⟨by kernel_rfl, ?_⟩) hS ?_
              rotate_left
              · intro w hSw; have e1 := hSw; go_simp; try simp only [hwr, hw2, hw3, and_self, if_true]
                first | done | with_reducible rfl
              skip
              refine wpAnyH_take (i := 9) (v := ?_) rfl (by as_aux_lemma => kernel_rfl) (by as_aux_lemma => kernel_rfl) (by as_aux_lemma => kernel_rfl) (fun _ _ _ h => h) (Or.inl ⟨by kernel_rfl, ?_⟩) hS ?_
              rotate_left
              · intro w hSw; have e1 := hSw; go_simp; try simp only [hwr, hw2, hw3, and_self, if_true]
                first | done | with_reducible rfl
              skip
              refine wpAnyH_take (i := 10) (v := ?_) rfl (by as_aux_lemma => kernel_rfl) (by as_aux_lemma => kernel_rfl) (by as_aux_lemma => kernel_rfl) (fun _ _ _ h => h) (Or.inl ⟨by kernel_rfl, ?_⟩) hS ?_
              rotate_left
              · intro w hSw; have e1 := hSw; go_simp; try simp only [hwr, hw2, hw3, and_self, if_true]
                first | done | with_reducible rfl
              skip
              refine wpAnyH_take (i := 11) (v := ?_) rfl (by as_aux_lemma => kernel_rfl) (by as_aux_lemma => kernel_rfl) (by as_aux_lemma => kernel_rfl) (fun _ _ _ h => h) (Or.inl ⟨by kernel_rfl, ?_⟩) hS ?_
              rotate_left
              · intro w hSw; have e1 := hSw; go_simp; try simp only [hwr, hw2, hw3, and_self, if_true]
                first | done | with_reducible rfl
              skip
              refine wpAnyH_take (i := 12) (v := ?_) rfl (by as_aux_lemma => kernel_rfl) (by as_aux_lemma => kernel_rfl) (by as_aux_lemma => kernel_rfl) (fun _ _ _ h => h) (Or.inl ⟨by kernel_rfl, ?_⟩) hS ?_
              rotate_left
              · intro w hSw; have e1 := hSw; go_simp; try simp only [hwr, hw2, hw3, and_self, if_true]
                first | done | with_reducible rfl
              skip
              refine wpAnyH_take (i := 13) (v := ?_) rfl (by as_aux_lemma => kernel_rfl) (by as_aux_lemma => kernel_rfl) (by as_aux_lemma => kernel_rfl) (fun _ _ _ h => h) (Or.inl ⟨by kernel_rfl, ?_⟩) hS ?_
              rotate_left
              · intro w hSw; have e1 := hSw; go_simp; try simp only [hwr, hw2, hw3, and_self, if_true]
                first | done | with_reducible rfl
              skip
              refine wpAnyH_ready (rs := [14]) (by as_aux_lemma => kernel_rfl) (by simp) ?_
              refine AllReadyH.cons rfl (fun K hK => ?_) AllReadyH.nil
              go_simp
              go_wp2_with fail
              refine hK.out _ _ ?_ (fun hS => ?_)
              · exact ((Below.refl w1.heap.size w1).alloc (Nat.le_refl _) _).cell (p := ⟨w.heap.size + 1, j, none⟩) hsz1 |>.trans hS
              clear hK K
              refine wpAnyH_ready (rs := [15]) (by as_aux_lemma => kernel_rfl) (by simp) ?_
              refine AllReadyH.cons rfl (fun K hK => ?_) AllReadyH.nil
              go_simp
              go_wp2_with fail
              refine hK.out _ _ ?_ (fun hS => ?_)
              · exact ((Below.refl w1.heap.size w1).alloc (Nat.le_refl _) _).cell (p := ⟨w.heap.size + 1, j, none⟩) hsz1 |>.trans hop
              clear hK K
              refine wpAnyH_done (by kernel_rfl) ?_ _
              have hbX := hbN.out (.cells #[.string (s.extract 0 n), .int .u8 (o : Int), .string (s.extract (n + g.size) s.size)] 24)
              have hRX := hRN.out (.cells #[.string (s.extract 0 n), .int .u8 (o : Int), .string (s.extract (n + g.size) s.size)] 24)
              have hxX := heap_new' w1 (.cells #[.string (s.extract 0 n), .int .u8 (o : Int), .string (s.extract (n + g.size) s.size)] 24)
              have d0 : (w1.alloc (.cells #[.string (s.extract 0 n), .int .u8 (o : Int), .string (s.extract (n + g.size) s.size)] 24)).drew.cell? ⟨w1.heap.size, 0, none⟩ = some (.string (s.extract 0 n)) := cell_heap hxX
              clear hbN hRN hS hop
              by_cases hE : E = 0
              · subst hE
                have HF := Lib.hid (HYes.out rfl)
                clear HYes HNo
                go_wp2_with (go_at_call 35; refine (HC1.out _).mono ?_; rintro e w3 ⟨rfl, q3⟩; refine Hid.out ?_)
                refine Lib.hid ?_
                have hb4 := hbX.drew.trans (q3.mono hbX.size)
                have hR4 := RBlk.below (w := (w1.alloc (.cells #[.string (s.extract 0 n), .int .u8 (o : Int), .string (s.extract (n + g.size) s.size)] 24)).drew) hRX q3
                have hx4 := (q3.block w1.heap.size (by simp)).trans hxX
                have hne : w.heap.size ≠ w1.heap.size := by have := (Array.getElem?_eq_some_iff.1 hR.1).1; omega
                have hm4 := hR4.1
                have c0 : w3.cell? ⟨w.heap.size, 0, none⟩ = some (.string ⟨#[]⟩) := cell_heap hm4
                have c1 : w3.cell? ⟨w.heap.size, 1, none⟩ = some (.int .u8 0) := cell_heap hm4
                have c2 : w3.cell? ⟨w.heap.size, 2, none⟩ = some (.string ⟨#[]⟩) := cell_heap hm4
                have f0 : w3.frozen? ⟨w.heap.size, 0, none⟩ = false := by simp [World.frozen?, hm4]
                have f1 : w3.frozen? ⟨w.heap.size, 1, none⟩ = false := by simp [World.frozen?, hm4]
                have f2 : w3.frozen? ⟨w.heap.size, 2, none⟩ = false := by simp [World.frozen?, hm4]
                have d0 : w3.cell? ⟨w1.heap.size, 0, none⟩ = some (.string (s.extract 0 n)) := cell_heap hx4
                have d1 : w3.cell? ⟨w1.heap.size, 1, none⟩ = some (.int .u8 (o : Int)) := cell_heap hx4
                have d2 : w3.cell? ⟨w1.heap.size, 2, none⟩ = some (.string (s.extract (n + g.size) s.size)) := cell_heap hx4
                clear q3 hm4 hx4 hR4 hR hRX hbX hxX
                go_wp2
                exact bodyPost_ret (v := .tuple #[.agg #[.string (s.extract 0 n), .int .u8 (o : Int), .string (s.extract (n + g.size) s.size)], .int .i64 0]) (by simp [results, Tryd.results11, go_sem, c0, c1, c2]) rfl ⟨Or.inl ⟨_, HF.out, rfl⟩, ((hb4.setCell (by simp) _).setCell (by simp) _).setCell (by simp) _⟩
              · have HJ2 := Lib.hid (HNo.out hE)
                clear HYes HNo
                go_wp2_with (go_at_call 35; refine (HC1.out _).mono ?_; rintro e w3 ⟨rfl, q3⟩; refine Hid.out ?_)
                refine Lib.hid ?_
                have hb4 := hbX.drew.trans (q3.mono hbX.size)
                have hR4 := RBlk.below (w := (w1.alloc (.cells #[.string (s.extract 0 n), .int .u8 (o : Int), .string (s.extract (n + g.size) s.size)] 24)).drew) hRX q3
                clear q3 hRX hbX hxX
                go_wp2
                go_roundw
                case rel => exact ⟨j + 1, by omega, by go_num, hb4, hR4, HJ2⟩
                case measure => simp [intOf]; omega
    · have HX := Lib.hid (noFirst_of (s := s) fun k o hk1 hk16 hks ho => HN.out k o hk1 (by omega) ho)
      have hm4 := hR.1
      have c0 : wr.cell? ⟨w.heap.size, 0, none⟩ = some (.string ⟨#[]⟩) := cell_heap hm4
      have c1 : wr.cell? ⟨w.heap.size, 1, none⟩ = some (.int .u8 0) := cell_heap hm4
      have c2 : wr.cell? ⟨w.heap.size, 2, none⟩ = some (.string ⟨#[]⟩) := cell_heap hm4
      have f0 : wr.frozen? ⟨w.heap.size, 0, none⟩ = false := by simp [World.frozen?, hm4]
      have f1 : wr.frozen? ⟨w.heap.size, 1, none⟩ = false := by simp [World.frozen?, hm4]
      have f2 : wr.frozen? ⟨w.heap.size, 2, none⟩ = false := by simp [World.frozen?, hm4]
      clear hm4 HN
      by_cases hsl : n ≤ s.size
      · have e1 : (n : Int) ≤ (s.size : Int) := by omega
        have e2 : ¬ (n : Int) ≤ 16 := by omega
        go_wp2
        exact bodyPost_ret (v := .tuple #[.agg #[.string ⟨#[]⟩, .int .u8 0, .string ⟨#[]⟩], .int .i64 4]) (by simp [results, Tryd.results11, go_sem, c0, c1, c2]) rfl ⟨Or.inr ⟨HX.out, rfl⟩, ((hb.setCell (by simp) _).setCell (by simp) _).setCell (by simp) _⟩
      · have e1 : ¬ (n : Int) ≤ (s.size : Int) := by omega
        go_wp2
        exact bodyPost_ret (v := .tuple #[.agg #[.string ⟨#[]⟩, .int .u8 0, .string ⟨#[]⟩], .int .i64 4]) (by simp [results, Tryd.results11, go_sem, c0, c1, c2]) rfl ⟨Or.inr ⟨HX.out, rfl⟩, ((hb.setCell (by simp) _).setCell (by simp) _).setCell (by simp) _⟩

end Go.Proofs.YtbkejafjlapmnaaDoor
