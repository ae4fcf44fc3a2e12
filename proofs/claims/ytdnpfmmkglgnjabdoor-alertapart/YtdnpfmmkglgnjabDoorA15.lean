/-
  What do of package watchfirelaw07 does: a call on a store and on the reference's.
-/
import Derived.Test.YtdnpfmmkglgnjabDoorA14
namespace Go.Proofs.YtdnpfmmkglgnjabDoor
open Go.RowKit

def AcBlk (w : World) (B : Nat) (kd : Int) (ad : Option Addr) (np cp : Nat) (st en nn : Int) : Prop := w.heap[B]? = some (.cells #[.int .u8 kd, .slice ad np cp, .int .i64 st, .int .i64 en, .int .i64 nn] 36 (0, 0))
section
variable {w w' : World} {B N : Nat} {kd : Int} {ad : Option Addr} {np cp : Nat} {st en nn : Int} {row : Option Nat}
theorem AcBlk.below (h : AcBlk w B kd ad np cp st en nn) (hb : Below N w w') (hN : B < N) : AcBlk w' B kd ad np cp st en nn := (hb.block B hN).trans h
theorem AcBlk.kept (h : AcBlk w B kd ad np cp st en nn) (hg : w.grownBy w' row) (hne : some B ≠ row) : AcBlk w' B kd ad np cp st en nn := (hg.block B (ltA h) hne).trans h
theorem AcBlk.c0 (h : AcBlk w B kd ad np cp st en nn) : w.cell? ⟨B, 0, none⟩ = some (.int .u8 kd) := cellA h
theorem AcBlk.c1 (h : AcBlk w B kd ad np cp st en nn) : w.cell? ⟨B, 1, none⟩ = some (.slice ad np cp) := cellA h
theorem AcBlk.c2 (h : AcBlk w B kd ad np cp st en nn) : w.cell? ⟨B, 2, none⟩ = some (.int .i64 st) := cellA h
theorem AcBlk.c3 (h : AcBlk w B kd ad np cp st en nn) : w.cell? ⟨B, 3, none⟩ = some (.int .i64 en) := cellA h
theorem AcBlk.c4 (h : AcBlk w B kd ad np cp st en nn) : w.cell? ⟨B, 4, none⟩ = some (.int .i64 nn) := cellA h
end
theorem RsBlk.kept {w w' : World} {B : Nat} {a : Option Addr} {n c : Nat} {row : Option Nat} (h : RsBlk w B a n c) (hg : w.grownBy w' row) (hne : some B ≠ row) : RsBlk w' B a n c := (hg.block B (ltA h) hne).trans h
theorem AlBlk.kept {w w' : World} {B : Nat} {a : Option Addr} {n c : Nat} {s e : Int} {row : Option Nat} (h : AlBlk w B a n c s e) (hg : w.grownBy w' row) (hne : some B ≠ row) : AlBlk w' B a n c s e := (hg.block B (ltA h) hne).trans h
theorem StAt.rows {w : World} {sb bm : Nat} {S : List Rw} (h : StAt w sb bm S) : ∀ r ∈ S, ∀ q, r.ad = some q → q.block < w.heap.size := fun r hr q e => by
  obtain ⟨h1, h2⟩ := h.2.2 r hr
  obtain ⟨q', e', hq⟩ := h1.lt (alE_zero h2).2.1
  obtain rfl := Option.some.inj (e.symm.trans e')
  exact hq
theorem gSet (w : World) (X j : Nat) (v : Value) : w.grownBy (w.setCell ⟨X, j, none⟩ v) (some X) := ⟨rfl, rfl, rfl, by simp [World.setCell], fun k _ hk => Below.heap_setCell w _ _ _ (fun e => hk (by rw [e]))⟩
theorem drop_len (S : List Rw) (b : Int) : (dropS S b).length ≤ S.length := List.length_filter_le _ _

/-- What do tells. -/
def DoPost (w : World) (sb bm : Nat) (e : Ending) (w' : World) : Prop :=
  ∃ a' c' S' R', e = .returned (.tuple #[.agg #[.slice a' (List.length R') c'], .bool true]) ∧ StAt w' sb bm S' ∧ RsAt w' a' c' R' ∧ Sim S' R' ∧ S'.length ≤ 64 ∧ w.grownBy w' (some bm)

theorem do_end {w w4 : World} {sb bm : Nat} {S' R' : List Rw} {a' : Option Addr} {c' : Nat} (X : Nat) (hX : w.heap.size ≤ X) (hg : w.grownBy w4 (some bm)) (hsb : sb < w.heap.size) (hbm : bm < w.heap.size) (hS : StAt w4 sb bm S') (hR : RsAt w4 a' c' R') (hk : RsBlk w4 X none 0 0) (hrow : ∀ r ∈ S', ∀ q, r.ad = some q → q.block ≠ X) (hsim : Sim S' R') (h64 : S'.length ≤ 64) :
    DoPost w sb bm (.returned (.tuple #[.agg #[.slice a' R'.length c'], .bool true])) (w4.setCell ⟨X, 0, none⟩ (.slice a' R'.length c')) :=
  ⟨a', c', S', R', rfl, hS.off (gSet w4 X 0 _) (by omega) (by omega) hrow, ⟨hR.1.past (gSet w4 X 0 _) hk, hR.2⟩, hsim, h64, hg.andThen (gSet w4 X 0 _) (fun j e => .inl (by obtain rfl := Option.some.inj e; exact hX))⟩

/-- Where a slice of a call's own lies. -/
def rowOf (a : Option Addr) : Option Nat := a.map Addr.block
theorem StAt.offRow {w w' : World} {sb bm : Nat} {S : List Rw} {a : Option Addr} (h : StAt w sb bm S) (hg : w.grownBy w' (rowOf a)) (h1 : ∀ q, a = some q → sb ≠ q.block ∧ bm ≠ q.block ∧ ∀ r ∈ S, ∀ z, r.ad = some z → z.block ≠ q.block) : StAt w' sb bm S := by
  cases a with
  | none => exact h.below (B := w.heap.size) ⟨hg.os, hg.tape, hg.output, hg.size, fun k hk => hg.block k hk (by simp [rowOf])⟩ (Nat.le_refl _)
  | some q => exact h.off hg (h1 q rfl).1 (h1 q rfl).2.1 (h1 q rfl).2.2
theorem do_sim {w4 w5 : World} {bm : Nat} {S R : List Rw} {ps : List Pr} {st en : Int} {S' R' : List Rw} (hsim : Sim S R) (h64 : S.length ≤ 64) (hS1 : putE S ps st en ≠ 0 → S' = S) (hS2 : putE S ps st en = 0 → ∃ ad cp, S' = putR ⟨ps, startA S ps st en, en, ad, cp⟩ S ∧ ∀ q, ad = some q → w4.heap.size ≤ q.block)
    (hR1 : putE R ps st en ≠ 0 → R' = R) (hR2 : putE R ps st en = 0 → ∃ ad cp, R' = putR ⟨ps, startA R ps st en, en, ad, cp⟩ R) (hm : StMap w5 bm S') (hm0 : StMap w4 bm S) : Sim S' R' ∧ S'.length ≤ 64 ∧ ∀ r ∈ S', r ∈ S ∨ ∀ q, r.ad = some q → w4.heap.size ≤ q.block := by
  have e := hsim.putE ps st en
  by_cases h : putE S ps st en = 0
  · obtain ⟨ad, cp, rfl, hq⟩ := hS2 h
    obtain ⟨ad', cp', rfl⟩ := hR2 (by rw [← e]; exact h)
    refine ⟨hsim.put (by unfold Rw.al; rw [hsim.start]), ?_, fun r hr => ?_⟩
    · have hsp := put_split (x := ⟨ps, startA S ps st en, en, ad, cp⟩) hm0.rising
      have hk : (⟨ps, startA S ps st en, en, ad, cp⟩ : Rw).key = keyL ps := rfl
      rw [hk] at hsp
      rw [hsp, List.length_append, List.length_cons, List.length_take, List.length_drop]
      have hpl := place_le S (keyL ps)
      cases hi : isAt S (keyL ps) with
      | true =>
        have hlt : placeN S (keyL ps) < S.length := by
          unfold isAt at hi
          split at hi
          · rename_i r hr; exact (List.getElem?_eq_some_iff.1 hr).1
          · cases hi
        simp
        omega
      | false =>
        have hfi := find_place (keyL ps) hm0.rising
        rw [hi] at hfi
        unfold putE at h
        split at h
        · rename_i hne; exact absurd h hne
        · split at h
          · cases h
          · rename_i hnf
            have : ¬ 64 ≤ S.length := fun hh => hnf ⟨by rw [hfi]; rfl, hh⟩
            simp
            omega
    · rcases mem_putR hr with rfl | hr
      · exact .inr hq
      · exact .inl hr
  · obtain rfl := hS1 h
    obtain rfl := hR1 (by rw [← e]; exact h)
    exact ⟨hsim, h64, fun r hr => .inl hr⟩

set_option maxRecDepth 100000 in
set_option maxHeartbeats 4000000 in
theorem awDo_drop (sb bm : Nat) (S : List Rw) (a : Option Addr) (c : Nat) (R : List Rw) (kd : Int) (ad : Option Addr) (cp : Nat) (ps : List Pr) (st en nn : Int) (np : Nat) (hnp : np = ps.length) (w : World) (hS : StAt w sb bm S) (hR : RsAt w a c R) (hsim : Sim S R) (h64 : S.length ≤ 64) (hk : kd.tmod 4 = 3) : Calls Tryd.prog 7 #[.pointer (some ⟨sb, 0, none⟩), .agg #[.slice a R.length c], .agg #[.int .u8 kd, .slice ad np cp, .int .i64 st, .int .i64 en, .int .i64 nn]] w (DoPost w sb bm) := by
  obtain ⟨n, hnl⟩ : ∃ n, n = R.length := ⟨_, rfl⟩
  rw [← hnl]
  have HNL := Lib.hid hnl
  have d1 := (Below.refl w.heap.size w).alloc (Nat.le_refl _) (.cells #[.slice a n c] 32)
  have d2 := d1.alloc (by simp) (.cells #[.int .u8 kd, .slice ad np cp, .int .i64 st, .int .i64 en, .int .i64 nn] 36)
  have d3 := d2.alloc (by simp; omega) (.cells #[.slice none 0 0] 32)
  have s1 : (w.alloc (.cells #[.slice a n c] 32)).heap.size = w.heap.size + 1 := by simp
  have s2 : ((w.alloc (.cells #[.slice a n c] 32)).alloc (.cells #[.int .u8 kd, .slice ad np cp, .int .i64 st, .int .i64 en, .int .i64 nn] 36)).heap.size = w.heap.size + 1 + 1 := by simp
  have s3 : (((w.alloc (.cells #[.slice a n c] 32)).alloc (.cells #[.int .u8 kd, .slice ad np cp, .int .i64 st, .int .i64 en, .int .i64 nn] 36)).alloc (.cells #[.slice none 0 0] 32)).heap.size = w.heap.size + 1 + 1 + 1 := by simp
  have k1 := RsBlk.new w a n c
  have k2 : AcBlk ((w.alloc (.cells #[.slice a n c] 32)).alloc (.cells #[.int .u8 kd, .slice ad np cp, .int .i64 st, .int .i64 en, .int .i64 nn] 36)) (w.heap.size + 1) kd ad np cp st en nn := by have := newA (w.alloc (.cells #[.slice a n c] 32)) (.cells #[.int .u8 kd, .slice ad np cp, .int .i64 st, .int .i64 en, .int .i64 nn] 36); rwa [s1] at this
  have k3 := RsBlk.new ((w.alloc (.cells #[.slice a n c] 32)).alloc (.cells #[.int .u8 kd, .slice ad np cp, .int .i64 st, .int .i64 en, .int .i64 nn] 36)) none 0 0
  rw [s2] at k3
  replace k1 := (k1.below ((Below.refl _ _).alloc (Nat.le_refl _) (.cells #[.int .u8 kd, .slice ad np cp, .int .i64 st, .int .i64 en, .int .i64 nn] 36)) (by simp)).below ((Below.refl _ _).alloc (Nat.le_refl _) (.cells #[.slice none 0 0] 32)) (by simp; omega)
  replace k2 := k2.below ((Below.refl _ _).alloc (Nat.le_refl _) (.cells #[.slice none 0 0] 32)) (by simp)
  obtain ⟨W, hW⟩ : ∃ W, W = ((w.alloc (.cells #[.slice a n c] 32)).alloc (.cells #[.int .u8 kd, .slice ad np cp, .int .i64 st, .int .i64 en, .int .i64 nn] 36)).alloc (.cells #[.slice none 0 0] 32) := ⟨_, rfl⟩
  rw [← hW] at d3 s3 k1 k2 k3
  have hsb : sb < w.heap.size := ltA hS.1
  have hbm : bm < w.heap.size := hS.2.1.lt
  have HNP := Lib.hid hnp
  have HW := Lib.hid (And.intro d3 (And.intro s3 (And.intro k1 (And.intro k2 k3))))
  have HD := Lib.hid (aDrop_any sb bm S nn W (hS.below d3 (Nat.le_refl _)) h64)
  have HH := Lib.hid (And.intro hS (And.intro hR hsim))
  have c1 := k2.c0; have c5 := k2.c4
  have hk' : (kd.tmod 4 == 3) = true := by simp [hk]
  clear d1 d2 s1 s2 hnl hnp k1 k2 k3 s3 d3 hS hR hsim
  subst hW
  go_enter Tryd.func7, Tryd.ntmps7
  go_wp2_with (go_at_call 14; refine HD.out.mono ?_; rintro e w2 ⟨rfl, g2, h2⟩; refine Hid.out ?_)
  refine Lib.hid ?_
  obtain ⟨d3, s3, k1, k2, k3⟩ := HW.out
  obtain ⟨hS, hR, hsim⟩ := HH.out
  have hw2 := (gOf d3 (some bm)).andThen g2 (fun j e => .inr e)
  replace k1 := k1.kept g2 (fun e => by have := Option.some.inj e; omega)
  replace k2 := k2.kept g2 (fun e => by have := Option.some.inj e; omega)
  replace k3 := k3.kept g2 (fun e => by have := Option.some.inj e; omega)
  have hR2 := hR.turn hw2 hS.2.1
  have HRd := Lib.hid (arDrop_any a c R nn w2 hR2 (by rw [← hsim.len]; exact h64))
  unfold DropPost at HRd
  rw [← HNL.out] at HRd
  have e0 := k1.c0; have e4 := k2.c4
  have HE2 : Hid ((S.length : Int) - ((dropS S nn).length : Int) = (n : Int) - ((dropS R nn).length : Int)) := Lib.hid (by rw [HNL.out, hsim.len, (hsim.drop nn).len])
  rw [HE2.out]
  have HX := Lib.hid (And.intro hw2 (And.intro h2 (And.intro k3 (And.intro (hsim.drop nn) hS.rows))))
  clear d3 s3 k1 k2 k3 hS hR hsim hw2 hR2 h2 g2 HD HW HH c1 c5
  go_wp2_with (go_at_call 15; refine HRd.out.mono ?_; rintro e w3 ⟨a3, c3, rfl, hR3, q3⟩; refine Hid.out ?_)
  refine Lib.hid ?_
  obtain ⟨hw2, h2, k3, hsim2, hrows⟩ := HX.out
  have d4 := (Below.refl w3.heap.size w3).alloc (Nat.le_refl _) (.cells #[.slice a3 (dropS R nn).length c3] 32)
  have q4 := q3.trans (d4.mono q3.size)
  have hg4 := hw2.andThen (gOf q4 none) (fun j e => by cases e)
  have k34 := k3.below q4 (ltA k3)
  have HF := Lib.hid (do_end (w.heap.size + 1 + 1) (by omega) hg4 hsb hbm (h2.below q4 (Nat.le_refl _)) (hR3.below d4 (Nat.le_refl _)) k34 (fun r hr q e => by have := hrows r (List.mem_filter.1 hr).1 q e; omega) hsim2 (Nat.le_trans (drop_len S nn) h64))
  have rr0 := (k34.set (a' := a3) (n' := (dropS R nn).length) (c' := c3)).c0
  have f0 := k34.c0; have f1 := k34.f 0
  clear hw2 h2 k3 hsim2 hrows d4 q4 hg4 k34 hR3 q3 HRd HX e0 e4 HE2
  generalize (dropS R nn).length = m at *
  go_wp2
  exact bodyPost_ret (v := .tuple #[.agg #[.slice a3 m c3], .bool true]) (by simp [results, Tryd.results7, go_sem, rr0]) rfl HF.out

set_option maxRecDepth 100000 in
set_option maxHeartbeats 8000000 in
theorem awDo_put (sb bm : Nat) (S : List Rw) (a : Option Addr) (c : Nat) (R : List Rw) (kd : Int) (ad : Option Addr) (cp : Nat) (ps : List Pr) (st en nn : Int) (np : Nat) (hnp : np = ps.length) (w : World) (hS : StAt w sb bm S) (hR : RsAt w a c R) (hsim : Sim S R) (h64 : S.length ≤ 64) (B : Nat) (hB : B ≤ w.heap.size) (hBm : B ≤ bm) (hv : TabOk B w) (hp : PairsAt w ad ps) (hcp : ad = none → cp = 0) (hsz : ∀ p ∈ ps, p.1.size ≤ 9223372036854775807) (h12 : ps.length ≤ 12) (hk : ¬ kd.tmod 4 = 3) : Calls Tryd.prog 7 #[.pointer (some ⟨sb, 0, none⟩), .agg #[.slice a R.length c], .agg #[.int .u8 kd, .slice ad np cp, .int .i64 st, .int .i64 en, .int .i64 nn]] w (DoPost w sb bm) := by
  obtain ⟨n, hnl⟩ : ∃ n, n = R.length := ⟨_, rfl⟩
  rw [← hnl]
  have HNL := Lib.hid hnl
  have d1 := (Below.refl w.heap.size w).alloc (Nat.le_refl _) (.cells #[.slice a n c] 32)
  have d2 := d1.alloc (by simp) (.cells #[.int .u8 kd, .slice ad np cp, .int .i64 st, .int .i64 en, .int .i64 nn] 36)
  have d3 := d2.alloc (by simp; omega) (.cells #[.slice none 0 0] 32)
  have s1 : (w.alloc (.cells #[.slice a n c] 32)).heap.size = w.heap.size + 1 := by simp
  have s2 : ((w.alloc (.cells #[.slice a n c] 32)).alloc (.cells #[.int .u8 kd, .slice ad np cp, .int .i64 st, .int .i64 en, .int .i64 nn] 36)).heap.size = w.heap.size + 1 + 1 := by simp
  have s3 : (((w.alloc (.cells #[.slice a n c] 32)).alloc (.cells #[.int .u8 kd, .slice ad np cp, .int .i64 st, .int .i64 en, .int .i64 nn] 36)).alloc (.cells #[.slice none 0 0] 32)).heap.size = w.heap.size + 1 + 1 + 1 := by simp
  have k1 := RsBlk.new w a n c
  have k2 : AcBlk ((w.alloc (.cells #[.slice a n c] 32)).alloc (.cells #[.int .u8 kd, .slice ad np cp, .int .i64 st, .int .i64 en, .int .i64 nn] 36)) (w.heap.size + 1) kd ad np cp st en nn := by have := newA (w.alloc (.cells #[.slice a n c] 32)) (.cells #[.int .u8 kd, .slice ad np cp, .int .i64 st, .int .i64 en, .int .i64 nn] 36); rwa [s1] at this
  have k3 := RsBlk.new ((w.alloc (.cells #[.slice a n c] 32)).alloc (.cells #[.int .u8 kd, .slice ad np cp, .int .i64 st, .int .i64 en, .int .i64 nn] 36)) none 0 0
  rw [s2] at k3
  replace k1 := (k1.below ((Below.refl _ _).alloc (Nat.le_refl _) (.cells #[.int .u8 kd, .slice ad np cp, .int .i64 st, .int .i64 en, .int .i64 nn] 36)) (by simp)).below ((Below.refl _ _).alloc (Nat.le_refl _) (.cells #[.slice none 0 0] 32)) (by simp; omega)
  replace k2 := k2.below ((Below.refl _ _).alloc (Nat.le_refl _) (.cells #[.slice none 0 0] 32)) (by simp)
  obtain ⟨W, hW⟩ : ∃ W, W = ((w.alloc (.cells #[.slice a n c] 32)).alloc (.cells #[.int .u8 kd, .slice ad np cp, .int .i64 st, .int .i64 en, .int .i64 nn] 36)).alloc (.cells #[.slice none 0 0] 32) := ⟨_, rfl⟩
  rw [← hW] at d3 s3 k1 k2 k3
  have hsb : sb < w.heap.size := ltA hS.1
  have hbm : bm < w.heap.size := hS.2.1.lt
  have HNP := Lib.hid hnp
  have HW := Lib.hid (And.intro d3 (And.intro s3 (And.intro k1 (And.intro k2 k3))))
  have hnp12 : np ≤ 12 := by rw [hnp]; exact h12
  have hk' : (kd.tmod 4 == 3) = false := beq_eq_false_iff_ne.2 hk
  have e1 := (Below.refl W.heap.size W).alloc (Nat.le_refl _) (.cells #[.slice ad np cp, .int .i64 st, .int .i64 en] 25)
  have m1 := AlBlk.new W ad np cp st en
  have s4 : (W.alloc (.cells #[.slice ad np cp, .int .i64 st, .int .i64 en] 25)).heap.size = w.heap.size + 1 + 1 + 1 + 1 := by simp [s3]
  rw [s3] at m1
  have e2 := (Below.refl _ (W.alloc (.cells #[.slice ad np cp, .int .i64 st, .int .i64 en] 25))).alloc (Nat.le_refl _) (.cells #[] 52)
  have own5 : OwnP ((W.alloc (.cells #[.slice ad np cp, .int .i64 st, .int .i64 en] 25)).alloc (.cells #[] 52)) (w.heap.size + 1 + 1 + 1 + 1) (.slice (some ⟨w.heap.size + 1 + 1 + 1 + 1, 0, none⟩) 0 0) [] := by have := ownP_made (W.alloc (.cells #[.slice ad np cp, .int .i64 st, .int .i64 en] 25)) (W.alloc (.cells #[.slice ad np cp, .int .i64 st, .int .i64 en] 25)).heap.size (Nat.le_refl _); rwa [s4] at this
  have dW1 : Below w.heap.size w (W.alloc (.cells #[.slice ad np cp, .int .i64 st, .int .i64 en] 25)) := d3.trans (e1.mono d3.size)
  have hpa5 : PairsAt ((W.alloc (.cells #[.slice ad np cp, .int .i64 st, .int .i64 en] 25)).alloc (.cells #[] 52)) ad ps := (hp.below dW1 (Nat.le_refl _)).below e2 (Nat.le_refl _)
  have hb5 : ([] : List Pr).length + ps.length ≤ 4398046511103 := by simp; omega
  have hsz5 : w.heap.size + 1 + 1 + 1 + 1 ≤ ((W.alloc (.cells #[.slice ad np cp, .int .i64 st, .int .i64 en] 25)).alloc (.cells #[] 52)).heap.size := by rw [World.size_alloc, s4]; omega
  have k21 := k2.below e1 (ltA k2)
  have k22 := k21.below e2 (ltA k21)
  have c0 := k2.c0; have c1 := k2.c1; have c2 := k2.c2; have c3 := k2.c3
  have c11 := k21.c1
  have c12 := k22.c1
  have HH := Lib.hid (And.intro hS (And.intro hR (And.intro hsim (And.intro hp hsz))))
  have HV := Lib.hid (And.intro hB (And.intro hBm hv))
  have HM := Lib.hid (And.intro dW1 (And.intro s4 (And.intro e2 (And.intro (k3.below e1 (ltA k3)) (And.intro m1 (And.intro (k1.below e1 (ltA k1)) k21))))))
  clear d1 d2 s1 s2 hnl hnp k1 k2 k3 s3 d3 hS hR hsim hp hsz hB hBm hv e1 m1 s4 e2 dW1 k21 k22 HW
  subst hW
  go_enter Tryd.func7, Tryd.ntmps7
  go_wp2_with (at_builtin; refine wpList_append_pairs _ rfl _ _ rfl (w.heap.size + 1 + 1 + 1 + 1) _ _ rfl own5 ad np cp ps rfl HNP.out hpa5 hcp hb5 hsz5 ?_; refine Hid.out ?_)
  refine Lib.hid ?_
  intro v6 w3 own6 g3
  obtain ⟨dW1, s4, e2, k3, m1, k1, k2⟩ := HM.out
  replace own6 : OwnP w3 (w.heap.size + 1 + 1 + 1 + 1) v6 ps := own6
  obtain ⟨a6, c6, hv6, -, -, hq6⟩ := OwnP.form own6
  rw [← HNP.out] at hv6
  subst hv6
  have b3 : Below (((((w.alloc (.cells #[.slice a n c] 32)).alloc (.cells #[.int .u8 kd, .slice ad np cp, .int .i64 st, .int .i64 en, .int .i64 nn] 36)).alloc (.cells #[.slice none 0 0] 32)).alloc (.cells #[.slice ad np cp, .int .i64 st, .int .i64 en] 25))).heap.size (((((w.alloc (.cells #[.slice a n c] 32)).alloc (.cells #[.int .u8 kd, .slice ad np cp, .int .i64 st, .int .i64 en, .int .i64 nn] 36)).alloc (.cells #[.slice none 0 0] 32)).alloc (.cells #[.slice ad np cp, .int .i64 st, .int .i64 en] 25))) w3 := e2.grown g3 (by simp) (fun j e => by simp [Value.ownBlock] at e; omega)
  rw [s4] at b3
  replace k1 := k1.below b3 (by omega)
  replace k2 := k2.below b3 (by omega)
  replace k3 := k3.below b3 (by omega)
  replace m1 := m1.below b3 (by omega)
  have f0 := m1.c0; have ff0 := m1.f 0
  have hg3 := gSet w3 (w.heap.size + 1 + 1 + 1) 0 (.slice a6 np c6)
  obtain ⟨w4, hw4⟩ : ∃ x, x = w3.setCell ⟨w.heap.size + 1 + 1 + 1, 0, none⟩ (.slice a6 np c6) := ⟨_, rfl⟩
  rw [← hw4] at hg3
  replace k1 := k1.kept hg3 (fun e => by have := Option.some.inj e; omega)
  replace k2 := k2.kept hg3 (fun e => by have := Option.some.inj e; omega)
  replace k3 := k3.kept hg3 (fun e => by have := Option.some.inj e; omega)
  replace m1 : AlBlk w4 (w.heap.size + 1 + 1 + 1) a6 np c6 st en := by rw [hw4]; exact m1.set0
  have own4 : OwnP w4 (w.heap.size + 1 + 1 + 1 + 1) (.slice a6 np c6) ps := by rw [hw4]; exact ownsRow_setCell_below own6 (by show w.heap.size + 1 + 1 + 1 < _; omega) _
  have b4 : Below w.heap.size w w4 := by rw [hw4]; exact (dW1.trans (b3.mono (by omega))).setCell (p := ⟨w.heap.size + 1 + 1 + 1, 0, none⟩) (by show w.heap.size ≤ w.heap.size + 1 + 1 + 1; omega) _
  have hsz4 : w4.heap.size = w3.heap.size := by rw [hw4]; simp
  obtain ⟨hS, hR, hsim, hp, hsz⟩ := HH.out
  obtain ⟨hB, hBm, hv⟩ := HV.out
  have HPut := Lib.hid (aPut_any sb bm S a6 c6 ps st en B w4 (hS.below b4 (Nat.le_refl _)) (OwnP.at own4) (Nat.le_trans hB b4.size) (hv.on (b4.mono hB)) np HNP.out h64)
  unfold PutPost at HPut
  have g0 := m1.c0; have g1 := m1.c1; have g2 := m1.c2
  have HQ6 : Hid (∀ q, a6 = some q → w.heap.size + 1 + 1 + 1 + 1 ≤ q.block ∧ q.block < w4.heap.size) := Lib.hid fun q e => ⟨(hq6 q e).1, by rw [hsz4]; exact (hq6 q e).2.1⟩
  have HM4 := Lib.hid (And.intro b4 (And.intro k1 (And.intro k2 (And.intro k3 (And.intro m1 own4)))))
  clear dW1 s4 e2 k3 m1 k1 k2 b3 own6 own4 b4 hsz4 hg3 hS hR hsim hp hsz hB hBm hv hq6 g3 HM own5 hpa5 hb5 hsz5 c0 c1 c2 c3 c11 c12
  subst hw4
  go_wp2_with (go_at_call 9; refine HPut.out.mono ?_; rintro e w5 ⟨rfl, g5, S', h5, hS1, hS2⟩; refine Hid.out ?_)
  refine Lib.hid ?_
  clear f0 ff0 g0 g1 g2 HPut
  generalize (w3.setCell ⟨w.heap.size + 1 + 1 + 1, 0, none⟩ (.slice a6 np c6)) = w4 at *
  obtain ⟨b4, k1, k2, k3, m1, own4⟩ := HM4.out
  have hbm4 : bm < w4.heap.size := Nat.lt_of_lt_of_le hbm b4.size
  replace k1 := k1.kept g5 (fun e => by have := Option.some.inj e; omega)
  replace k2 := k2.kept g5 (fun e => by have := Option.some.inj e; omega)
  replace k3 := k3.kept g5 (fun e => by have := Option.some.inj e; omega)
  replace m1 := m1.kept g5 (fun e => by have := Option.some.inj e; omega)
  have own5 : OwnP w5 (w.heap.size + 1 + 1 + 1 + 1) (.slice a6 np c6) ps := World.ownsRow.kept own4 g5 (.inr fun e => by have := (World.ownsRow.lt own4 bm e).1; omega)
  have hw5 := (gOf b4 (some bm)).andThen g5 (fun j e => .inr e)
  have HM5 := Lib.hid (And.intro hw5 (And.intro h5 (And.intro hS1 (And.intro hS2 (And.intro k1 (And.intro k2 (And.intro k3 m1)))))))
  have HO5 := Lib.hid own5
  have HB4 := Lib.hid b4
  have HW4 : Hid (w.heap.size + 1 + 1 + 1 < w4.heap.size) := Lib.hid (ltA (HM4.out.2.2.2.2.1))
  clear b4 k1 k2 k3 m1 own4 own5 hw5 h5 hS1 hS2 g5 HM4
  go_wp2
  go_loopw [13] (fun i wr => ∃ (k : Nat) (qs : List Pr), k ≤ np ∧ i = .int .i64 k ∧ Hid (qs.length = np ∧ OwnP wr (w.heap.size + 1 + 1 + 1 + 1) (.slice a6 np c6) qs ∧ w5.grownBy wr (rowOf a6))) (fun i _ => np - (intOf i).toNat)
  case atStart => exact ⟨0, ps, Nat.zero_le _, rfl, Lib.hid ⟨HNP.out.symm, HO5.out, World.grownBy.refl _ _⟩⟩
  case round =>
    obtain ⟨k, qs, hkn, rfl, HK⟩ := hrel
    obtain ⟨hw5, h5, hS1, hS2, k1, k2, k3, m1⟩ := HM5.out
    have hrow : ∀ X, X < w.heap.size + 1 + 1 + 1 + 1 → some X ≠ rowOf a6 := fun X hX e => by
      cases a6 with
      | none => cases e
      | some q => have := (HQ6.out q rfl).1; have := Option.some.inj e; omega
    replace m1 := m1.kept HK.out.2.2 (hrow _ (by omega))
    have g0 := m1.c0
    by_cases hlt : k < np
    · have hkl : (k : Int) < (np : Int) := by omega
      have hkq : k < qs.length := by rw [HK.out.1]; exact hlt
      obtain ⟨g, hag, hgB, hfr, hc1, hc2, hst, -⟩ := OwnP.store HK.out.2.1 HK.out.1.symm k hkq
      subst hag
      have hf1 := hfr (k * 2 + 1)
      obtain ⟨own7, g7⟩ := hst ⟨#[63]⟩
      have HK2 : Hid ((qs.set k (qs[k].1, ⟨#[63]⟩)).length = np ∧ OwnP (wr.setCell ⟨g, k * 2 + 1, none⟩ (.string ⟨#[63]⟩)) (w.heap.size + 1 + 1 + 1 + 1) (.slice (some ⟨g, 0, none⟩) np c6) (qs.set k (qs[k].1, ⟨#[63]⟩)) ∧ w5.grownBy (wr.setCell ⟨g, k * 2 + 1, none⟩ (.string ⟨#[63]⟩)) (rowOf (some ⟨g, 0, none⟩))) := Lib.hid ⟨by simp [HK.out.1], own7, HK.out.2.2.andThen g7 (fun j e => .inr e)⟩
      clear hst own7 g7 hfr hc2 HK hw5 h5 hS1 hS2 k1 k2 k3 m1 hrow
      generalize qs[k].2 = sv at *
      generalize hqs2 : (qs.set k (qs[k].1, ⟨#[63]⟩)) = qs2 at *
      clear hqs2 hkq
      go_wp2
      go_roundw
      case rel => exact ⟨k + 1, qs2, by omega, by go_num, HK2⟩
      case measure => simp [intOf]; omega
    · have hkl : ¬ (k : Int) < (np : Int) := by omega
      have g8 := HK.out.2.2
      obtain ⟨hS, hR, hsim, hp, hsz⟩ := HH.out
      have hg8 : w.grownBy wr (some bm) := hw5.andThen g8 (fun j e => .inl (by
        cases a6 with
        | none => cases e
        | some q => have := (HQ6.out q rfl).1; have := Option.some.inj e; omega))
      replace k1 := k1.kept g8 (hrow _ (by omega))
      replace k2 := k2.kept g8 (hrow _ (by omega))
      replace k3 := k3.kept g8 (hrow _ (by omega))
      have hR8 := hR.turn hg8 hS.2.1
      have hp8 := hp.turn hg8 hS.2.1
      have HRP := Lib.hid (arPut_any a c R ad cp ps st en wr hR8 hp8 hsz np HNP.out (by rw [← hsim.len]; exact h64) hcp)
      unfold RPutPost at HRP
      rw [← HNL.out, ← hsim.putE] at HRP
      have e0 := k1.c0
      have e1 := k2.c1; have e2 := k2.c2; have e3 := k2.c3
      have HX := Lib.hid (And.intro hg8 (And.intro h5 (And.intro hS1 (And.intro hS2 (And.intro k3 (And.intro g8 (And.intro hsim hS)))))))
      have HPE := Lib.hid (hsim.putE ps st en)
      clear hw5 h5 hS1 hS2 k1 k2 k3 m1 hrow g8 hS hR hsim hp hsz hg8 hR8 hp8 HK HM5 HO5 HH
      obtain ⟨E, HEE⟩ : ∃ E, Hid (putE S ps st en = E) := ⟨_, Lib.hid rfl⟩
      rw [HEE.out] at HRP ⊢
      go_wp2_with (go_at_call 16; refine HRP.out.mono ?_; rintro e w7 ⟨a7, c7, R', rfl, hR7, hR1, hR2, q7⟩; refine Hid.out ?_)
      refine Lib.hid ?_
      obtain ⟨hg8, h5, hS1, hS2, k3, g8, hsim, hS⟩ := HX.out
      obtain ⟨hsim', h64', hrows⟩ := do_sim hsim h64 hS1 hS2 (by rw [← HPE.out, HEE.out]; exact hR1) (by rw [← HPE.out, HEE.out]; exact hR2) h5.2.1 (hS.2.1.below HB4.out hbm)
      have d8 := (Below.refl w7.heap.size w7).alloc (Nat.le_refl _) (.cells #[.slice a7 R'.length c7] 32)
      have q8 := q7.trans (d8.mono q7.size)
      have hg9 := hg8.andThen (gOf q8 none) (fun j e => by cases e)
      have k38 := k3.below q8 (ltA k3)
      have hSr : StAt wr sb bm S' := h5.offRow g8 (fun q e => ⟨by have := (HQ6.out q e).1; omega, by have := (HQ6.out q e).1; omega, fun r hr z ez => by
        have h6 := HQ6.out q e
        rcases hrows r hr with hr | hr
        · have := hS.rows r hr z ez; omega
        · have := hr z ez; omega⟩)
      have HF := Lib.hid (do_end (w.heap.size + 1 + 1) (by omega) hg9 hsb hbm (hSr.below q8 (Nat.le_refl _)) (hR7.below d8 (Nat.le_refl _)) k38 (fun r hr z ez => by
        rcases hrows r hr with hr | hr
        · have := hS.rows r hr z ez; omega
        · have := hr z ez; have := HB4.out.size; have h4 := HW4.out; omega) hsim' h64')
      have rr0 := (k38.set (a' := a7) (n' := R'.length) (c' := c7)).c0
      have f0 := k38.c0; have f1 := k38.f 0
      clear hg8 h5 hS1 hS2 k3 g8 hsim hS hsim' h64' hrows d8 q8 hg9 k38 hSr hR7 hR1 hR2 q7 HRP HX e0 e1 e2 e3 HPE HEE
      generalize R'.length = m at *
      go_wp2
      exact bodyPost_ret (v := .tuple #[.agg #[.slice a7 m c7], .bool true]) (by simp [results, Tryd.results7, go_sem, rr0]) rfl HF.out

/-- What do of the statements does. -/
theorem awDo_any (sb bm : Nat) (S : List Rw) (a : Option Addr) (c : Nat) (R : List Rw) (x : Ac) (w : World) (hS : StAt w sb bm S) (hR : RsAt w a c R) (hsim : Sim S R) (h64 : S.length ≤ 64) (B : Nat) (hB : B ≤ w.heap.size) (hBm : B ≤ bm) (hv : TabOk B w) (hp : PairsAt w x.al.ad x.al.ps) (hx : AcOk x) (h12 : x.al.ps.length ≤ 12) :
    Calls Tryd.prog 7 #[.pointer (some ⟨sb, 0, none⟩), .agg #[.slice a R.length c], acV x] w (DoPost w sb bm) := by
  by_cases hk : x.kd.tmod 4 = 3
  · exact awDo_drop sb bm S a c R x.kd x.al.ad x.al.cp x.al.ps x.al.st x.al.en x.nn _ rfl w hS hR hsim h64 hk
  · exact awDo_put sb bm S a c R x.kd x.al.ad x.al.cp x.al.ps x.al.st x.al.en x.nn _ rfl w hS hR hsim h64 B hB hBm hv hp hx.2.1 hx.2.2.2 h12 hk

end Go.Proofs.YtdnpfmmkglgnjabDoor
