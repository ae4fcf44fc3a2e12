/-
  ends, put together; the reference's Match and Like.
-/
import Derived.Test.YtlcbkhmaemoahaaDoorXEnds
import Derived.Test.YtlcbkhmaemoahaaDoorXPr
namespace Go.Proofs.YtlcbkhmaemoahaaDoor
open Go.RowKit

theorem EndsAt.as {s : ByteArray} {t : TV} {A B : Lang} {u : World} (h : EndsAt s t A u) (e : ∀ x, A x ↔ B x) : EndsAt s t B u := fun a c la hl hb =>
  (h a c la hl hb).mono fun _ _ ⟨⟨a', c', lb, h1, h2, h3⟩, h4⟩ => ⟨⟨a', c', lb, h1, h2, h3.as e⟩, h4⟩

theorem ends_any (s : ByteArray) (hs : s.size ≤ 1000) : ∀ (d : Nat) (t : TV) (A : Lang) (w : World), Den d w (fun b => b < w.heap.size) t A → EndsAt s t A w
  | 0, _, _, _, h => h.elim
  | d + 1, ⟨k, T, ta, tn, tc⟩, A, w, h => by
    rcases h with ⟨hk, hA⟩ | ⟨ts, Ls, hT, hl, hD, h4⟩
    · simp only at hk hA
      subst hk
      exact (ends_set s T ta tn tc w hs).as fun x => (hA x).symm
    · have hlen := hT.1
      simp only at hlen hT
      subst hlen
      have hn := hT.2.1
      have HP : ∀ i (h1 : i < ts.length) (h2 : i < Ls.length) u, Below w.heap.size w u → EndsAt s ts[i] Ls[i] u := fun i h1 h2 u hu =>
        ends_any s hs d _ _ u (Den.keep (fun b hb => hu.block b hb) (fun b hb => Nat.lt_of_lt_of_le hb hu.size) d _ _ (hD i h1 h2))
      rcases h4 with ⟨h1, h2⟩ | ⟨h1, h2⟩ | ⟨L, rfl, h1⟩
      · simp only at h1
        subst h1
        exact (ends_row s T ta tc ts Ls w hs hT hl hn HP).as fun x => (h2 x).symm
      · simp only at h1
        subst h1
        exact (ends_rows s T ta tc ts Ls w hs hT hl hn HP).as fun x => (h2 x).symm
      · obtain ⟨p, rfl⟩ : ∃ p, ts = [p] := List.length_eq_one_iff.1 hl
        have HP1 : ∀ u, Below w.heap.size w u → EndsAt s p L u := fun u hu => HP 0 (by simp) (by simp) u hu
        rcases h1 with ⟨h1, h2⟩ | ⟨h1, h2⟩ | ⟨h1, h2⟩
        all_goals
          simp only at h1
          subst h1
        · exact (ends_star s T ta tc p L w hs hT HP1).as fun x => (h2 x).symm
        · exact (ends_plus s T ta tc p L w hs hT HP1).as fun x => (h2 x).symm
        · exact (ends_maybe s T ta tc p L w hs hT HP1).as fun x => (h2 x).symm

def firstL (n : Nat) : List Bool := (List.replicate (n + 1) false).set 0 true
theorem first_len (n : Nat) : (firstL n).length = n + 1 := by simp [firstL]
theorem at_first (n i : Nat) : At (firstL n) i ↔ i = 0 := by
  unfold At firstL
  rw [List.getElem?_set]
  by_cases h : 0 = i
  · subst h; simp
  · rw [if_neg h, List.getElem?_replicate]
    split <;> simp <;> omega
theorem outs_first {A : Lang} {s : ByteArray} {lb : List Bool} (h : Outs A s.data.toList (firstL s.size) lb) (hl : s.size < lb.length) : (lb[s.size] = true) ↔ A s.data.toList := by
  have h1 : At lb s.size ↔ lb[s.size] = true := by unfold At; rw [List.getElem?_eq_getElem hl]; simp
  rw [← h1, h.2]
  simp only [at_first]
  have hsz : s.data.toList.length = s.size := by simp
  constructor
  · rintro ⟨i, rfl, -, -, h2⟩
    rw [List.drop_zero, Nat.sub_zero, List.take_of_length_le (by omega)] at h2
    exact h2
  · intro h2
    refine ⟨0, rfl, Nat.zero_le _, by omega, ?_⟩
    rw [List.drop_zero, Nat.sub_zero, List.take_of_length_le (by omega)]
    exact h2

set_option maxRecDepth 20000 in
set_option maxHeartbeats 4000000 in
theorem eMatch_any (s : ByteArray) (t : TV) (A : Lang) (d : Nat) (w : World) (hs : s.size ≤ 1000) (hd : Den d w (fun b => b < w.heap.size) t A) :
    Calls Tryd.prog 32 #[.agg (treeC t), .string s] w fun e w' => Tells (A s.data.toList) e ∧ Below w.heap.size w w' := by
  obtain ⟨i0, hi, hi0, hi1, hi2⟩ := info_parts infoBool
  have HI := Lib.hid (And.intro hi0 (And.intro hi1 hi2))
  clear hi0 hi1 hi2
  have hA := (Below.refl w.heap.size w).alloc (Nat.le_refl _) (.cells (treeC t) 30)
  have tb0 := TreeBlk.new w t
  go_enter Tryd.func32, Tryd.ntmps32
  go_wp2_with (at_make; refine Hid.out ?_)
  refine Lib.hid ?_
  refine wpList_make_full _ rfl _ _ 87 rfl w.heap.size 4 i0 (.bool false) 1 Tryd.underlying87 hi HI.out.1 HI.out.2.1 .i64 .i64 _ _ (s.size + 1) rfl rfl (by first | rfl | omega) (by first | rfl | omega) (by rw [HI.out.2.2]; omega) (by unfold maxLen; omega) (by simp) ?_
  intro W hown hgrow
  rw [made_false] at hown
  have own0 : OwnBo W w.heap.size (w.heap.size + 1) (s.size + 1) (List.replicate (s.size + 1) false) := by
    unfold OwnBo
    simpa using hown
  have hgW : Below (w.heap.size + 1) (w.alloc (.cells (treeC t) 30)) W := (Below.refl _ _).grown hgrow (by simp) (by simp)
  have hbW : Below w.heap.size w W := hA.trans (hgW.mono (by omega))
  have tbW : TreeBlk W w.heap.size t := (hgW.block _ (by omega)).trans tb0
  have own1 : OwnBo _ _ _ _ (firstL s.size) := own0.set 0 true
  obtain ⟨g3, e3, c3⟩ := own0.reads (by simp) 0 (by simp)
  obtain rfl : w.heap.size + 1 = g3 := by injection e3 with e3; injection e3
  have f3 := World.ownsRow.frozenAt own0 0
  have hb1 := hbW.setCell (p := ⟨w.heap.size + 1, 0, none⟩) (by show w.heap.size ≤ w.heap.size + 1; omega) (.bool true)
  have tb1 := tbW.kept (grownBy_setCell W (w.heap.size + 1) 0 (.bool true)) (by simp)
  have hE := ends_any s hs d t A (W.setCell ⟨w.heap.size + 1, 0, none⟩ (.bool true)) (Den.keep (fun b hb => hb1.block b hb) (fun b hb => Nat.lt_of_lt_of_le hb hb1.size) d _ _ hd) _ (s.size + 1) (firstL s.size) (first_len _) (own1.reads (first_len _))
  rw [first_len] at hE
  have HE := Lib.hid hE
  clear hown hgrow HI hi hA tb0 hgW own0 own1 tbW hbW hE e3 hd
  generalize hW2 : W.setCell ⟨w.heap.size + 1, 0, none⟩ (.bool true) = W2 at *
  rw [← hW2] at HE tb1 hb1
  clear hW2
  have hsz1 : (0 : Int) < (s.size : Int) + 1 := by omega
  go_wp2_with (first | (with_reducible change wpList Tryd.prog _ _ (_ :: _) _ _; refine wpList_load_tree rfl _ rfl _ rfl tb1 ?_) | (go_at_call 51; refine HE.out.mono ?_; rintro e w2 ⟨⟨a2, c2, lc, rfl, hb2, ho2⟩, q2⟩; refine Hid.out ?_))
  refine Lib.hid ?_
  have hlc : s.size < lc.length := by rw [ho2.1, first_len]; omega
  obtain ⟨g, rfl, c4⟩ := hb2 s.size hlc
  have HO := Lib.hid (outs_first ho2 hlc)
  rw [first_len]
  clear ho2 hb2 HE tb1
  generalize lc[s.size] = x at *
  have hsz2 : (s.size : Int) < (s.size : Int) + 1 := by omega
  go_wp2
  go_ret
  exact ⟨⟨x, rfl, HO.out⟩, hb1.trans (q2.mono hb1.size)⟩

end Go.Proofs.YtlcbkhmaemoahaaDoor
