/-
  What Sort does: an error, or the pairs by rising names in memory of its own.
-/
import Derived.Test.YtpjmfembpckohaaGreatDoorLab4
import Derived.Shelf.SlSortCmp.NoneTotal
namespace Go.Proofs.YtpjmfembpckohaaGreatDoor
open Go.RowKit

theorem SortFunc_own (a : Option Addr) (c : Nat) (ps : List Pr) (B : Nat) (w : World) (h : OwnP w B (.slice a ps.length c) ps) (hB : B ≤ w.heap.size) (h12 : ps.length ≤ 12) (n : Nat) (hn : n = ps.length) :
    Calls Tryz.prog 44 #[.slice a n c, .func (.func 45) #[] #[]] w fun e w' => e = .returned (.tuple #[]) ∧ ∃ qs : List Pr, qs.Perm ps ∧ (qs.Pairwise fun a b => ¬ nm b < nm a) ∧ HeldP w' B a qs ∧ Below B w w' := by
  subst hn
  obtain ⟨a', c', hv, -, -, hq⟩ := h.form
  injection hv with hv1 hv2 hv3
  subst hv1 hv3
  cases a with
  | none =>
    rcases h.2 with ⟨-, h0⟩ | ⟨g, cap, cur, hv, -⟩
    · obtain rfl := List.eq_nil_of_length_eq_zero h0
      refine (AnyF.slices_SortFunc_none Tryz.lSortFunc none c _ w).mono ?_
      rintro e w' ⟨he, rfl⟩
      exact ⟨he, [], List.Perm.refl _, List.Pairwise.nil, fun h => absurd h (by simp), Below.refl _ _⟩
    · cases hv
  | some q =>
    obtain ⟨h1, h2, h3⟩ := hq q rfl
    rw [h3] at h ⊢
    refine (SortFunc_any q.block c ps B w h h1 h2 h12).mono ?_
    rintro e w' ⟨he, qs, hp, hs, hH, hb⟩
    exact ⟨he, qs, hp, hs, fun _ => ⟨q.block, rfl, h1, Nat.lt_of_lt_of_le h2 hb.size, hH⟩, hb⟩

theorem HeldP.below {w w' : World} {B B' : Nat} {a : Option Addr} {ps : List Pr} (h : HeldP w B a ps) (hb : Below B' w w') (hB : w.heap.size ≤ B') : HeldP w' B a ps := fun hn => by
  obtain ⟨g, rfl, h1, h2, hH⟩ := h hn
  refine ⟨g, rfl, h1, Nat.lt_of_lt_of_le h2 hb.size, fun j hj => ?_⟩
  obtain ⟨e1, e2⟩ := hH j hj
  have hgl : g < B' := Nat.lt_of_lt_of_le h2 hB
  have hblk := hb.block g hgl
  exact ⟨by rw [World.cell?_of_block hblk]; exact e1, by rw [World.frozen?_of_block hblk]; exact e2⟩

set_option maxHeartbeats 2000000 in
theorem Sort_any (a : Option Addr) (c : Nat) (ps : List Pr) (w : World) (h : PairsAt w a ps) (n : Nat) (hn : n = ps.length) :
    Calls Tryz.prog 28 #[.slice a n c] w fun e w' => ∃ a' k c' qs, e = .returned (.tuple #[.slice a' k c', .int .i64 (sortE ps)]) ∧ k = qs.length ∧ HeldP w' w.heap.size a' qs ∧ Below w.heap.size w w' ∧ (sortE ps ≠ 0 → qs = []) ∧ (sortE ps = 0 → qs.Perm ps ∧ Rise qs) := by
  subst hn
  have HC := Lib.hid (checkParts_any a c ps w h)
  by_cases h0 : partsE ps = 0
  · have h8 := partsE_zero h0
    have HS : Hid (sortE ps = if Once ps then 0 else 7) := by unfold sortE; rw [h0, if_neg (by simp)]; exact rfl
    rw [h0] at HC
    clear h0
    by_cases ho : Once ps
    · rw [if_pos ho] at HS
      go_enter Tryz.func28, Tryz.ntmps28
      go_wp2_with (go_at_call 35; refine HC.out.mono ?_; rintro e w1 ⟨rfl, hb1⟩; refine Hid.out ?_)
      refine Lib.hid ?_
      have hp1 := h.below hb1 (Nat.le_refl _)
      have hs1 := hb1.size
      go_wp2_with (go_at_call 43; refine (Clone_any a c ps _ hp1 (by omega)).mono ?_; rintro e w2 ⟨v2, rfl, hown2, hb2⟩; refine Hid.out ?_)
      refine Lib.hid ?_
      obtain ⟨a2, c2, rfl, hat2, -, hq2⟩ := hown2.form
      have hs2 := hb2.size
      go_wp2_with (go_at_call 44; refine (SortFunc_own a2 c2 ps _ _ hown2 (by omega) (by omega) _ rfl).mono ?_; rintro e w3 ⟨rfl, qs, hperm, hup, hheld, hb3⟩; refine Hid.out ?_)
      refine Lib.hid ?_
      have hs3 := hb3.size
      have hlen := hperm.length_eq
      have hrise := rise_of_up hup ((once_perm hperm).2 ho)
      have hR := decide_eq_true hrise
      have HR := Lib.hid (rise_any a2 c2 qs w3 hheld.at (by omega))
      rw [hlen] at HR
      go_wp2_with (go_at_call 36; refine HR.out.mono ?_; rintro e w4 ⟨rfl, hb4⟩; refine Hid.out ?_)
      refine Lib.hid ?_
      go_wp2
      go_ret2
      refine ⟨a2, ps.length, c2, qs, by rw [HS.out]; rfl, hlen.symm, ?_, ?_, fun h => absurd HS.out h, fun _ => ⟨hperm, hrise⟩⟩
      · intro hn
        obtain ⟨g, e1, e2, e3, e4⟩ := (hheld.below hb4 (Nat.le_refl _)) hn
        exact ⟨g, e1, by omega, e3, e4⟩
      · exact ((hb1.trans (hb2.mono hs1)).trans (hb3.mono (by omega))).trans (hb4.mono (by omega))
    · rw [if_neg ho] at HS
      go_enter Tryz.func28, Tryz.ntmps28
      go_wp2_with (go_at_call 35; refine HC.out.mono ?_; rintro e w1 ⟨rfl, hb1⟩; refine Hid.out ?_)
      refine Lib.hid ?_
      have hp1 := h.below hb1 (Nat.le_refl _)
      have hs1 := hb1.size
      go_wp2_with (go_at_call 43; refine (Clone_any a c ps _ hp1 (by omega)).mono ?_; rintro e w2 ⟨v2, rfl, hown2, hb2⟩; refine Hid.out ?_)
      refine Lib.hid ?_
      obtain ⟨a2, c2, rfl, hat2, -, hq2⟩ := hown2.form
      have hs2 := hb2.size
      go_wp2_with (go_at_call 44; refine (SortFunc_own a2 c2 ps _ _ hown2 (by omega) (by omega) _ rfl).mono ?_; rintro e w3 ⟨rfl, qs, hperm, hup, hheld, hb3⟩; refine Hid.out ?_)
      refine Lib.hid ?_
      have hs3 := hb3.size
      have hlen := hperm.length_eq
      have hR := decide_eq_false (fun hr : Rise qs => ho ((once_perm hperm).1 (rise_once hr)))
      have HR := Lib.hid (rise_any a2 c2 qs w3 hheld.at (by omega))
      rw [hlen] at HR
      go_wp2_with (go_at_call 36; refine HR.out.mono ?_; rintro e w4 ⟨rfl, hb4⟩; refine Hid.out ?_)
      refine Lib.hid ?_
      go_wp2
      go_ret2
      refine ⟨none, 0, 0, [], by rw [HS.out]; rfl, rfl, (fun h => absurd h (by simp)), ?_, fun _ => rfl, fun h => ?_⟩
      · exact ((hb1.trans (hb2.mono hs1)).trans (hb3.mono (by omega))).trans (hb4.mono (by omega))
      · rw [HS.out] at h
        exact absurd h (by decide)
  · have HS : Hid (sortE ps = partsE ps) := by unfold sortE; rw [if_pos h0]; exact rfl
    generalize hE : partsE ps = E at HC HS h0
    have h0' : (E != 0) = true := by simpa using h0
    clear hE
    go_enter Tryz.func28, Tryz.ntmps28
    go_wp2_with (go_at_call 35; refine HC.out.mono ?_; rintro e w1 ⟨rfl, hb1⟩; refine Hid.out ?_)
    refine Lib.hid ?_
    go_wp2
    go_ret2
    exact ⟨none, 0, 0, [], by rw [HS.out]; rfl, rfl, (fun h => absurd h (by simp)), hb1, fun _ => rfl, fun h => absurd (HS.out.symm.trans h) h0⟩

end Go.Proofs.YtpjmfembpckohaaGreatDoor
