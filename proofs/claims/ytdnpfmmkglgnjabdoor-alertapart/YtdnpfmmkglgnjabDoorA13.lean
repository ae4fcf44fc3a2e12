/-
  The reference's Firing, Drop and Get.
-/
import Derived.Test.YtdnpfmmkglgnjabDoorA6
import Derived.Test.YtdnpfmmkglgnjabDoorA12
namespace Go.Proofs.YtdnpfmmkglgnjabDoor
open Go.RowKit

/-- What the reference's Firing tells. -/
def FirPost (w : World) (S : List Rw) (now : Int) (e : Ending) (w' : World) : Prop := ∃ a' c', e = .returned (.slice a' (S.filter (fun r : Rw => firesP r.st r.en now)).length c') ∧ AlsAt w' a' (S.filter (fun r : Rw => firesP r.st r.en now)) ∧ Below w.heap.size w w'
/-- What the reference's Drop tells. -/
def DropPost (w : World) (S : List Rw) (now : Int) (e : Ending) (w' : World) : Prop := ∃ a' c', e = .returned (.tuple #[.agg #[.slice a' (dropS S now).length c'], .int .i64 ((S.length : Int) - ((dropS S now).length : Int))]) ∧ RsAt w' a' c' (dropS S now) ∧ Below w.heap.size w w'
theorem filter_take {p : Rw → Bool} {S : List Rw} {k : Nat} (hk : k < S.length) : (S.take (k + 1)).filter p = (S.take k).filter p ++ (if p S[k] then [S[k]] else []) := by
  rw [List.take_succ_eq_append_getElem hk, List.filter_append]
  cases h : p S[k] <;> simp [h]
theorem ownA_pairs {w : World} {a : Option Addr} {S L : List Rw} (h : AlsAt w a S) (hL : ∀ r ∈ L, r ∈ S) : ∀ r ∈ L, PairsAt w r.ad r.ps := fun r hr => by
  obtain ⟨i, hi, rfl⟩ := List.getElem_of_mem (hL r hr)
  obtain ⟨b, o, -, -, hp⟩ := h.c i hi
  exact hp

set_option maxRecDepth 100000 in
set_option maxHeartbeats 4000000 in
theorem arDrop_any (a : Option Addr) (c : Nat) (S : List Rw) (now : Int) (w : World) (h0 : RsAt w a c S) (hn : S.length ≤ 64) :
    Calls Tryd.prog 15 #[.agg #[.slice a S.length c], .int .i64 now] w fun e w' => DropPost w S now e w' := by
  have h := h0.1
  have HRS := Lib.hid h0
  clear h0
  obtain ⟨n, hnl⟩ : ∃ n, n = S.length := ⟨_, rfl⟩
  have d1 := (Below.refl w.heap.size w).alloc (Nat.le_refl _) (.cells #[.slice a n c] 32)
  have k1 := RsBlk.new w a n c
  have s1 : (w.alloc (.cells #[.slice a n c] 32)).heap.size = w.heap.size + 1 := by simp
  have d2 := d1.alloc (by simp) (.cells #[.slice none 0 0] 32)
  have k3 := RsBlk.new (w.alloc (.cells #[.slice a n c] 32)) none 0 0
  rw [s1] at k3
  have s2 : ((w.alloc (.cells #[.slice a n c] 32)).alloc (.cells #[.slice none 0 0] 32)).heap.size = w.heap.size + 1 + 1 := by simp
  have k1 := k1.below ((Below.refl _ _).alloc (Nat.le_refl _) (.cells #[.slice none 0 0] 32)) (by simp)
  have HS2 := Lib.hid s2
  clear s2
  rw [← hnl] at hn ⊢
  have HN := Lib.hid hnl
  have HH := Lib.hid h
  have K1 := Lib.hid (And.intro d2 (And.intro k1 k3))
  clear h hnl d1 k1 s1 d2 k3
  go_enter Tryd.func15, Tryd.ntmps15
  go_wp2
  go_loopw [6, 7] (fun v i wr => ∃ (k : Nat) (a5 : Option Addr) (n5 c5 : Nat), k ≤ n ∧ i = .int .i64 k ∧ v = .slice a5 n5 c5 ∧ Hid (OwnA wr (w.heap.size + 1 + 1) (.slice a5 n5 c5) ((S.take k).filter (fun r : Rw => !decide (r.en < now)))) ∧ Hid (Below (w.heap.size + 1 + 1) ((w.alloc (.cells #[.slice a n c] 32)).alloc (.cells #[.slice none 0 0] 32)) wr)) (fun _ i _ => n - (intOf i).toNat)
  case atStart => exact ⟨0, none, 0, 0, Nat.zero_le _, rfl, rfl, Lib.hid (World.ownsRow_nil _ _ _ _), Lib.hid (Below.refl _ _)⟩
  case round =>
    obtain ⟨k, a5, n5, c5, hk, rfl, rfl, HO, HB⟩ := hrel
    obtain ⟨d1, k1, k3⟩ := K1.out
    have hsz : w.heap.size + 1 + 1 ≤ wr.heap.size := by have := HB.out.size; have := HS2.out; omega
    have kr := k1.below HB.out (by omega)
    have c0 := kr.c0
    have br : Below w.heap.size w wr := d1.trans (HB.out.mono (by omega))
    by_cases hlt : k < n
    · have hkl : (k : Int) < (n : Int) := by omega
      have hkS : k < S.length := by have := HN.out; omega
      obtain ⟨b1, o1, rfl, hc1, hp1⟩ := (HH.out.below br (Nat.le_refl _)).c k hkS
      have e0 := hc1.2.1; have e1 := hc1.2.2.1; have e2 := hc1.2.2.2
      have hft := filter_take (p := (fun r : Rw => !decide (r.en < now))) hkS
      have HX : Hid (((fun r : Rw => !decide (r.en < now)) S[k] = true → (S.take (k + 1)).filter (fun r : Rw => !decide (r.en < now)) = (S.take k).filter (fun r : Rw => !decide (r.en < now)) ++ [S[k]]) ∧ ((fun r : Rw => !decide (r.en < now)) S[k] = false → (S.take (k + 1)).filter (fun r : Rw => !decide (r.en < now)) = (S.take k).filter (fun r : Rw => !decide (r.en < now)))) := Lib.hid ⟨fun e => by rw [hft, if_pos e], fun e => by rw [hft, if_neg (by simpa using e)]; simp⟩
      have HLn : Hid (((S.take k).filter (fun r : Rw => !decide (r.en < now))).length ≤ 64) := Lib.hid (by
        have := List.length_filter_le (fun r : Rw => !decide (r.en < now)) (S.take k)
        rw [List.length_take] at this
        omega)
      have HP1 := Lib.hid (And.intro hc1 hp1)
      clear hc1 hp1 hft
      generalize hSk : S[k] = r0 at *
      generalize hL0 : (S.take k).filter (fun r : Rw => !decide (r.en < now)) = L0 at *
      clear hSk hL0
      by_cases hq0 : now ≤ r0.en
      · have hq : (!decide (r0.en < now)) = true := by simp; omega
        have PX := HP1.out.2
        have hownX := HO.out
        have BXX := HB.out
        clear br kr d1 k1 k3
        have hl64 := HLn.out
        have hown := HO.out
        have hsz2 : w.heap.size + 1 + 1 ≤ wr.heap.size := by omega
        have hone := alsAt_one wr r0 (PX.below ((Below.refl wr.heap.size wr).alloc (Nat.le_refl _) _) (Nat.le_refl _))
        have hownA := OwnA.onB hownX ((Below.refl wr.heap.size wr).alloc (Nat.le_refl _) (.cells #[.slice r0.ad r0.ps.length r0.cp, .int .i64 r0.st, .int .i64 r0.en] 25)) (Nat.le_refl _)
        go_wp2_with (at_builtin; refine wpList_append_als _ rfl _ _ rfl (w.heap.size + 1 + 1) _ L0 rfl hownA (some ⟨wr.heap.size, 0, none⟩) 1 1 [r0] rfl rfl hone (fun e => by cases e) (by simp; omega) (by have := HS2.out; simp; omega) ?_; refine Hid.out ?_)
        refine Lib.hid ?_
        intro v6 w6 own6 g6
        have HO2 : Hid (OwnA w6 (w.heap.size + 1 + 1) v6 ((S.take (k + 1)).filter (fun r : Rw => !decide (r.en < now)))) := Lib.hid (by rw [HX.out.1 hq]; exact own6)
        obtain ⟨a6, c6, rfl, -⟩ := own6.form
        have HB2 := Lib.hid ((BXX.alloc (by have := HS2.out; omega) _).grown g6 (by have := HS2.out; simp; omega) (fun j e => (World.ownsRow.lt HO.out j e).1))
        generalize (L0 ++ [r0]).length = n6 at *
        clear own6 g6 hown hl64 hone hownA hownX BXX PX HX c0 e0 e1 e2 HP1 HLn HO HB
        go_wp2
        go_roundw
        case rel => exact ⟨k + 1, _, _, _, by omega, by go_num, rfl, HO2, HB2⟩
        case measure => simp [intOf]; omega
      · have hq : (!decide (r0.en < now)) = false := by simp; omega
        have HO2 : Hid (OwnA wr (w.heap.size + 1 + 1) (.slice a5 n5 c5) ((S.take (k + 1)).filter (fun r : Rw => !decide (r.en < now)))) := Lib.hid (by rw [HX.out.2 hq]; exact HO.out)
        clear br kr d1 k1 k3 HX HP1 HLn HO hq
        go_wp2
        go_roundw
        case rel => exact ⟨k + 1, _, _, _, by omega, by go_num, rfl, HO2, HB⟩
        case measure => simp [intOf]; omega
    · have hkl : ¬ (k : Int) < (n : Int) := by omega
      obtain rfl : k = n := by omega
      have hT : S.take k = S := by rw [HN.out]; exact List.take_length
      rw [hT] at HO
      have hr3 := k3.below HB.out (by omega)
      obtain ⟨a6, c6, hv6, h6, h6c, h6n⟩ := OwnA.at HO.out (ownA_pairs (HH.out.below br (Nat.le_refl _)) fun r hr => (List.mem_filter.1 hr).1)
      simp only [Value.slice.injEq] at hv6
      obtain ⟨rfl, hn5, rfl⟩ := hv6
      have hn5k : n5 ≤ k := by
        have := List.length_filter_le (fun r : Rw => !decide (r.en < now)) S
        have := HN.out
        omega
      have hwr : IntKind.i64.wrap ((k : Int) - (n5 : Int)) = (k : Int) - (n5 : Int) := by rw [IntKind.wrap_i64]; omega
      have hg : wr.grownBy (wr.setCell ⟨w.heap.size + 1, 0, none⟩ (.slice a5 n5 c5)) (some (w.heap.size + 1)) := ⟨rfl, rfl, rfl, by simp [World.setCell], fun k _ hk => Below.heap_setCell wr _ _ _ (fun e => hk (by rw [e]))⟩
      have hRs : RsAt (wr.setCell ⟨w.heap.size + 1, 0, none⟩ (.slice a5 n5 c5)) a5 c5 (dropS S now) := ⟨h6.past hg hr3, h6c, h6n, fun r hr => HRS.out.2.2.2.1 r (List.mem_filter.1 hr).1, List.Pairwise.filter _ HRS.out.2.2.2.2⟩
      have HF := Lib.hid (And.intro hRs (br.setCell (p := ⟨w.heap.size + 1, 0, none⟩) (by show w.heap.size ≤ w.heap.size + 1; omega) (.slice a5 n5 c5)))
      have HN5 : Hid (n5 = (dropS S now).length) := Lib.hid hn5
      have rr0 := (hr3.set (a' := a5) (n' := n5) (c' := c5)).c0
      have hk3 := hr3.c0; have hf3 := hr3.f 0
      have hk1n : RsBlk (wr.setCell ⟨w.heap.size + 1, 0, none⟩ (.slice a5 n5 c5)) w.heap.size a k c := (Below.heap_setCell wr _ _ _ (by simp)).trans kr
      clear hn5 h6 h6c h6n br d1 k1 k3 HO hT hg hRs hr3
      go_wp2_with fail
      refine wp_region_any (by kernel_rfl) ?_
      change wpAny _ _ _ _ _ _ _ (World.drew _)
      have hS : (fun w' : World => RsBlk w' w.heap.size a k c) wr.drew := kr
      refine wpAny_of_held (S := fun w' => RsBlk w' w.heap.size a k c) _ _ _ _ ?_
      refine wpAnyH_takeA (i := 0) (some 31) (v := ?_) rfl rfl (by as_aux_lemma => kernel_rfl) (by as_aux_lemma => kernel_rfl) (by as_aux_lemma => kernel_rfl) (fun _ _ _ h => h) (Or.inl ⟨by kernel_rfl, ?_⟩) hS ?_
      rotate_left
      · intro w hSw; have c0 := hSw.c0; go_simp
        first | done | with_reducible rfl
      refine wpAnyH_takeA (i := 1) (some 32) (v := ?_) rfl rfl (by as_aux_lemma => kernel_rfl) (by as_aux_lemma => kernel_rfl) (by as_aux_lemma => kernel_rfl) (fun _ _ _ h => h) (Or.inl ⟨by kernel_rfl, ?_⟩) hS ?_
      rotate_left
      · intro w hSw; have c0 := hSw.c0; go_simp
        first | done | with_reducible rfl
      refine wpAnyH_takeA (i := 2) (some 33) (v := ?_) rfl rfl (by as_aux_lemma => kernel_rfl) (by as_aux_lemma => kernel_rfl) (by as_aux_lemma => kernel_rfl) (fun _ _ _ h => h) (Or.inl ⟨by kernel_rfl, ?_⟩) hS ?_
      rotate_left
      · intro w hSw; have c0 := hSw.c0; go_simp
        first | done | with_reducible rfl
      refine wpAnyH_takeA (i := 3) (some 34) (v := ?_) rfl rfl (by as_aux_lemma => kernel_rfl) (by as_aux_lemma => kernel_rfl) (by as_aux_lemma => kernel_rfl) (fun _ _ _ h => h) (Or.inl ⟨by kernel_rfl, ?_⟩) hS ?_
      rotate_left
      · intro w hSw; have c0 := hSw.c0; go_simp
        first | done | with_reducible rfl
      refine wpAnyH_takeA (i := 4) (some 35) (v := ?_) rfl rfl (by as_aux_lemma => kernel_rfl) (by as_aux_lemma => kernel_rfl) (by as_aux_lemma => kernel_rfl) (fun _ _ _ h => h) (Or.inl ⟨by kernel_rfl, ?_⟩) hS ?_
      rotate_left
      · intro w hSw; have c0 := hSw.c0; go_simp
        first | done | with_reducible rfl
      refine wpAnyH_takeA (i := 5) (some 36) (v := ?_) rfl rfl (by as_aux_lemma => kernel_rfl) (by as_aux_lemma => kernel_rfl) (by as_aux_lemma => kernel_rfl) (fun _ _ _ h => h) (Or.inl ⟨by kernel_rfl, ?_⟩) hS ?_
      rotate_left
      · intro w hSw; have c0 := hSw.c0; go_simp
        first | done | with_reducible rfl
      refine wpAnyH_takeA (i := 6) (some 37) (v := ?_) rfl rfl (by as_aux_lemma => kernel_rfl) (by as_aux_lemma => kernel_rfl) (by as_aux_lemma => kernel_rfl) (fun _ _ _ h => h) (Or.inl ⟨by kernel_rfl, ?_⟩) hS ?_
      rotate_left
      · intro w hSw; have c0 := hSw.c0; go_simp
        first | done | with_reducible rfl
      refine wpAnyH_takeA (i := 7) (some 38) (v := ?_) rfl rfl (by as_aux_lemma => kernel_rfl) (by as_aux_lemma => kernel_rfl) (by as_aux_lemma => kernel_rfl) (fun _ _ _ h => h) (Or.inl ⟨by kernel_rfl, ?_⟩) hS ?_
      rotate_left
      · intro w hSw; have c0 := hSw.c0; go_simp
        first | done | with_reducible rfl
      refine wpAnyH_ready (rs := [8]) (by as_aux_lemma => kernel_rfl) (by simp) ?_
      refine AllReadyH.cons rfl (fun K hK => ?_) AllReadyH.nil
      go_simp
      refine hK.out _ _ ?_ (fun hS => ?_)
      · exact hk1n
      clear hK K
      refine wpAnyH_takeA (i := 9) (some 5) (v := ?_) rfl rfl (by as_aux_lemma => kernel_rfl) (by as_aux_lemma => kernel_rfl) (by as_aux_lemma => kernel_rfl) (fun _ _ _ h => h) (Or.inl ⟨by kernel_rfl, ?_⟩) hS ?_
      rotate_left
      · intro w hSw; have c0 := hSw.c0; go_simp
        first | done | with_reducible rfl
      refine wpAnyH_done (by kernel_rfl) ?_ _
      clear hS hk1n kr
      go_simp
      go_wp2
      exact bodyPost_ret (v := .tuple #[.agg #[.slice a5 n5 c5], .int .i64 ((k : Int) - (n5 : Int))]) (by simp [results, Tryd.results15, go_sem, rr0]) rfl ⟨a5, c5, by rw [← HN5.out, ← HN.out], HF.out.1, HF.out.2.drew⟩

end Go.Proofs.YtdnpfmmkglgnjabDoor
