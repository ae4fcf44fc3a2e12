/-
  Where labels go through a tree: somewhere, nowhere twice, and through routes that all take them. The walk of RouteSomewhere.
-/
import Derived.Test.YtbkejafjlapmnaaDoorRWalk
import Derived.Test.YtbkejafjlapmnaaDoorRCheck
import Derived.Test.YtbkejafjlapmnaaDoorRAwake
import Derived.Test.YtbkejafjlapmnaaDoorRRef
namespace Go.Proofs.YtbkejafjlapmnaaDoor
open Go.RowKit

theorem runKids_mem {g : Nat → List Nat} {co : Nat → Bool} {x : Nat} : ∀ {ks : List Nat}, x ∈ runKids g co ks → ∃ k ∈ ks, x ∈ g k
  | k :: r, h => by
    unfold runKids at h
    split at h
    · obtain ⟨q, h1, h2⟩ := runKids_mem h
      exact ⟨q, List.mem_cons_of_mem _ h1, h2⟩
    · split at h
      · rcases List.mem_append.1 h with h | h
        · exact ⟨k, by simp, h⟩
        · obtain ⟨q, h1, h2⟩ := runKids_mem h
          exact ⟨q, List.mem_cons_of_mem _ h1, h2⟩
      · exact ⟨k, by simp, h⟩
theorem kids_mem {l : List Rt} {a k : Nat} (h : k ∈ kidsP l a) : ∃ hk : k < l.length, l[k].par = (a : Int) := by
  unfold kidsP kidsTo at h
  obtain ⟨h1, h2⟩ := List.mem_filter.1 h
  have hk : k < l.length := List.mem_range.1 h1
  refine ⟨hk, ?_⟩
  simpa [hk] using h2
theorem walk_mem {tk co : Nat → Bool} {kids : Nat → List Nat} {f a x : Nat} (h : x ∈ walkP tk co kids (f + 1) a) : tk a = true ∧ (x = a ∨ ∃ k ∈ kids a, x ∈ walkP tk co kids f k) := by
  unfold walkP at h
  split at h
  · rename_i ht
    refine ⟨ht, ?_⟩
    split at h
    · exact Or.inl (List.mem_singleton.1 h)
    · exact Or.inr (runKids_mem h)
  · cases h

/-- A route that takes labels, as do all in which it stands. -/
def goodN (l : List Rt) (tk : Nat → Bool) : Nat → Nat → Prop
  | 0, _ => False
  | f + 1, y => ∃ hy : y < l.length, tk y = true ∧ (y = 0 ∨ ∃ p : Nat, l[y].par = (p : Int) ∧ goodN l tk f p)
def Good (l : List Rt) (tk : Nat → Bool) (y : Nat) : Prop := ∃ f, goodN l tk f y
theorem walk_good {l : List Rt} {tk co : Nat → Bool} : ∀ (f a x : Nat) (ha : a < l.length), (a = 0 ∨ ∃ p : Nat, l[a].par = (p : Int) ∧ Good l tk p) → x ∈ walkP tk co (kidsP l) f a → Good l tk x
  | 0, _, _, _, _, h => by cases h
  | f + 1, a, x, ha, hp, h => by
    obtain ⟨ht, hx⟩ := walk_mem h
    have hg : Good l tk a := by
      rcases hp with rfl | ⟨p, h1, q, h2⟩
      · exact ⟨1, ha, ht, Or.inl rfl⟩
      · exact ⟨q + 1, ha, ht, Or.inr ⟨p, h1, h2⟩⟩
    rcases hx with rfl | ⟨k, hk, hx⟩
    · exact hg
    · obtain ⟨hkl, hkp⟩ := kids_mem hk
      exact walk_good f k x hkl (Or.inr ⟨a, hkp, hg⟩) hx
theorem Good.out {l : List Rt} {tk : Nat → Bool} {y : Nat} (h : Good l tk y) : ∃ hy : y < l.length, tk y = true ∧ (y = 0 ∨ ∃ p : Nat, l[y].par = (p : Int) ∧ Good l tk p) := by
  obtain ⟨f, h⟩ := h
  cases f with
  | zero => exact absurd h (fun h => h)
  | succ f =>
    obtain ⟨hy, h1, h2⟩ := h
    exact ⟨hy, h1, h2.imp id fun ⟨p, h3, h4⟩ => ⟨p, h3, f, h4⟩⟩

/-- A route stands so many steps within another. -/
def descN (l : List Rt) : Nat → Nat → Nat → Prop
  | 0, a, x => x = a
  | d + 1, a, x => ∃ (hx : x < l.length) (p : Nat), l[x].par = (p : Int) ∧ descN l d a p
theorem desc_up {l : List Rt} {k a : Nat} (hk : k < l.length) (hp : l[k].par = (a : Int)) : ∀ {d x : Nat}, descN l d k x → descN l (d + 1) a x
  | 0, x, h => by
    obtain rfl : x = k := h
    exact ⟨hk, a, hp, rfl⟩
  | d + 1, x, ⟨hx, p, h1, h2⟩ => ⟨hx, p, h1, desc_up hk hp h2⟩
theorem walk_desc {l : List Rt} {tk co : Nat → Bool} : ∀ (f a x : Nat), x ∈ walkP tk co (kidsP l) f a → ∃ d, descN l d a x
  | 0, _, _, h => by cases h
  | f + 1, a, x, h => by
    rcases (walk_mem h).2 with rfl | ⟨k, hk, hx⟩
    · exact ⟨0, rfl⟩
    · obtain ⟨hkl, hkp⟩ := kids_mem hk
      obtain ⟨d, hd⟩ := walk_desc f k x hx
      exact ⟨d + 1, desc_up hkl hkp hd⟩
theorem desc_sub {l : List Rt} {a b : Nat} : ∀ {d e x : Nat}, descN l d a x → descN l (d + e) b x → descN l e b a
  | 0, e, x, h, k => by
    obtain rfl : x = a := h
    rw [Nat.zero_add] at k
    exact k
  | d + 1, e, x, ⟨hx, p, h1, h2⟩, k => by
    rw [show d + 1 + e = (d + e) + 1 by omega] at k
    obtain ⟨_, q, k1, k2⟩ := k
    obtain rfl : p = q := by rw [h1] at k1; exact Int.ofNat.inj k1
    exact desc_sub h2 k2
theorem tree_par {l : List Rt} (ht : TreeOk l) {x p : Nat} (hx : x < l.length) (h : l[x].par = (p : Int)) : p < x := by
  by_cases h0 : x = 0
  · subst h0
    obtain ⟨⟨_, h1, -⟩, -⟩ := ht
    rw [h1] at h
    omega
  · have := (ht.2 x hx (by omega)).2
    omega
theorem desc_le {l : List Rt} (ht : TreeOk l) {a : Nat} : ∀ {d x : Nat}, descN l d a x → a ≤ x
  | 0, x, h => by have : x = a := h; omega
  | d + 1, x, ⟨hx, p, h1, h2⟩ => by have := desc_le ht h2; have := tree_par ht hx h1; omega
theorem kids_apart {l : List Rt} (ht : TreeOk l) {a k q x d e : Nat} (hk : k ∈ kidsP l a) (hq : q ∈ kidsP l a) (h1 : descN l d k x) (h2 : descN l e q x) : k = q := by
  obtain ⟨hkl, hkp⟩ := kids_mem hk
  obtain ⟨hql, hqp⟩ := kids_mem hq
  have key : ∀ {k q : Nat} (hkl : k < l.length) (hql : q < l.length) {d e : Nat}, l[k].par = (a : Int) → l[q].par = (a : Int) → descN l d k x → descN l (d + e) q x → k = q := fun {k q} hkl hql {d e} hkp hqp h1 h2 => by
    have h3 := desc_sub h1 h2
    cases e with
    | zero => exact h3
    | succ e =>
      obtain ⟨_, p, h4, h5⟩ := h3
      obtain rfl : a = p := by rw [hkp] at h4; exact Int.ofNat.inj h4
      have := desc_le ht h5
      have := tree_par ht hql hqp
      omega
  by_cases hde : d ≤ e
  · exact key hkl hql hkp hqp h1 (by rw [show d + (e - d) = e by omega]; exact h2)
  · exact (key hql hkl hqp hkp h2 (by rw [show e + (d - e) = d by omega]; exact h1)).symm
theorem runKids_nodup {g : Nat → List Nat} {co : Nat → Bool} : ∀ {ks : List Nat}, ks.Nodup → (∀ k ∈ ks, (g k).Nodup) → (∀ k ∈ ks, ∀ q ∈ ks, ∀ x, x ∈ g k → x ∈ g q → k = q) → (runKids g co ks).Nodup
  | [], _, _, _ => List.nodup_nil
  | k :: r, h1, h2, h3 => by
    obtain ⟨hk, hr⟩ := List.nodup_cons.1 h1
    have ih := runKids_nodup (g := g) (co := co) hr (fun q hq => h2 q (List.mem_cons_of_mem _ hq)) (fun p hp q hq => h3 p (List.mem_cons_of_mem _ hp) q (List.mem_cons_of_mem _ hq))
    unfold runKids
    split
    · exact ih
    · split
      · refine List.nodup_append.2 ⟨h2 k (by simp), ih, fun x hx y hy e => ?_⟩
        subst e
        obtain ⟨q, hq, hxq⟩ := runKids_mem hy
        have := h3 k (by simp) q (List.mem_cons_of_mem _ hq) x hx hxq
        subst this
        exact hk hq
      · exact h2 k (by simp)
theorem walk_nodup {l : List Rt} (ht : TreeOk l) {tk co : Nat → Bool} : ∀ (f a : Nat), (walkP tk co (kidsP l) f a).Nodup
  | 0, _ => List.nodup_nil
  | f + 1, a => by
    unfold walkP
    split
    · split
      · exact List.nodup_cons.2 ⟨by simp, List.nodup_nil⟩
      · refine runKids_nodup ?_ (fun k _ => walk_nodup ht f k) fun k hk q hq x h1 h2 => ?_
        · unfold kidsP kidsTo
          exact List.nodup_range.filter _
        · obtain ⟨d, hd⟩ := walk_desc f k x h1
          obtain ⟨e, he⟩ := walk_desc f q x h2
          exact kids_apart ht hk hq hd he
    · exact List.nodup_nil
theorem walkL_few (l : List Rt) (tk : Nat → Bool) : (walkL l tk).length ≤ (l.length + 1) * l.length := by
  unfold walkL
  split
  · simp
  · exact walk_few l tk (coP l) (l.length + 1) 0 (by omega)
/-- What is told of labels through a tree. -/
theorem walkL_tree {l : List Rt} (ht : TreeOk l) {ps : List Pr} {tk : Nat → Bool} (hk : TkOk l ps tk) : 0 < (walkL l tk).length ∧ (∀ x ∈ walkL l tk, Good l tk x) ∧ ∀ i j (hi : i < (walkL l tk).length) (hj : j < (walkL l tk).length), i < j → (walkL l tk)[i] ≠ (walkL l tk)[j] := by
  obtain ⟨h0, -, h2⟩ := ht.1
  have e : walkL l tk = walkP tk (coP l) (kidsP l) (l.length + 1) 0 := by unfold walkL; rw [if_neg (by omega)]
  have htk : tk 0 = true := (hk 0 h0).2 fun m hm => by
    rw [List.eq_nil_of_length_eq_zero h2] at hm
    cases hm
  refine ⟨?_, fun x hx => ?_, ?_⟩
  · rw [e]
    unfold walkP
    rw [if_pos htk]
    split
    · simp
    · rename_i h
      exact List.length_pos_iff.2 h
  · rw [e] at hx
    exact walk_good _ 0 x h0 (Or.inl rfl) hx
  · have hn : (walkL l tk).Nodup := by rw [e]; exact walk_nodup ht _ _
    intro i j hi hj hij
    exact List.pairwise_iff_getElem.1 hn i j hi hj hij


theorem conf_tree {l : List Rt} {ls : List Rl} {pt rs : Int} (h : confE l ls pt rs = 0) : TreeOk l := by
  unfold confE at h
  split at h
  · cases h
  · exact Classical.byContradiction fun k => by
      have h2 : (10 : Int) = 0 := (if_neg fun q => k ((treeB_iff l).1 q)).symm.trans h
      cases h2

set_option maxRecDepth 20000 in
set_option maxHeartbeats 8000000 in
theorem some_walk (a : Option Addr) (c : Nat) (l : List Rt) (b : Option Addr) (cb : Nat) (ls : List Rl) (pt rs : Int) (d : Option Addr) (pc : Nat) (ps : List Pr) (w : World) (htab : TabW w) (hl : RtsAt w a l) (hls : RlsAt w b ls) (okl : ∀ r ∈ l, RtOk r) (okls : ∀ r ∈ ls, RlOk r) (hn : l.length ≤ 9223372036854775807) (hm : ls.length ≤ 9223372036854775807) (hps : PairsAt w d ps) (hpn : ps.length ≤ 9223372036854775807) :
    Calls Tryd.prog 8 #[.agg #[.slice a l.length c, .slice b ls.length cb, .int .i64 pt, .int .i64 rs], .slice d ps.length pc] w fun e w' => e = .returned (.bool true) ∧ Below w.heap.size w w' := by
  have htl := htab.lt
  obtain ⟨tk, htk⟩ := tk_ex l ps
  have hA := (Below.refl w.heap.size w).alloc (Nat.le_refl _) (.cells #[.slice a l.length c, .slice b ls.length cb, .int .i64 pt, .int .i64 rs] 41)
  have hm0 : CfBlk (w.alloc (.cells #[.slice a l.length c, .slice b ls.length cb, .int .i64 pt, .int .i64 rs] 41)) w.heap.size a l.length c b ls.length cb pt rs := heap_new w _
  have HW := Lib.hid (fun u (hb : Below w.heap.size w u) => tawake_any u (htab.on hb htl))
  have HL := Lib.hid (uLight_any a c l b cb ls pt rs _ (hl.below hA (Nat.le_refl _)) (hls.below hA (Nat.le_refl _)) hn hm)
  have HP := Lib.hid (fun u (hb : Below w.heap.size w u) => nLight_any none d 0 0 pc ps u (hps.below hb (Nat.le_refl _)) (by decide) hpn)
  have HC := Lib.hid (fun u (hb : Below w.heap.size w u) => tCheck_any a c l b cb ls pt rs u (htab.on hb htl) (hl.below hb (Nat.le_refl _)) (hls.below hb (Nat.le_refl _)) okl okls hn hm)
  have HB0 := Lib.hid hA
  have HM0 := Lib.hid hm0
  by_cases hL : LightC l ls
  · have HLt := Lib.hid hL
    have hl20 : l.length ≤ 20 := hL.1
    have hok : (∀ r ∈ l, r.ms.length ≤ 9223372036854775807) := fun r hr => (okl r hr).1.1
    have HWk := Lib.hid (fun (hpv : ∀ q ∈ ps, q.2.size ≤ 9223372036854775807) u (hb : Below w.heap.size w u) => tWalk_any a c l d pc ps tk htk u (htab.on hb htl) (hl.below hb (Nat.le_refl _)) (hps.below hb (Nat.le_refl _)) (by have := hL.1; omega) hok hpn hpv)
    have HAl := Lib.hid (fun (hpv : ∀ q ∈ ps, q.2.size ≤ 9223372036854775807) (r : Rt) (hr : r ∈ l) u (hb : Below w.heap.size w u) (hu : MtsAt u r.ma r.ms) => mAll_any r.ma r.mc r.ms d pc ps u (htab.on hb htl) hu (hok r hr) (hps.below hb (Nat.le_refl _)) hpn hpv _ rfl)
    have HR := Lib.hid hl
    clear hA hm0 hl hls okl okls hps htab hL hok
    go_enter Tryd.func8, Tryd.ntmps8
    go_wp2_with (go_at_call 17; refine HL.out.mono ?_; rintro e w1 ⟨ht, q1⟩; obtain rfl := tells_yes ht HLt.out; clear ht; refine Hid.out ?_)
    refine Lib.hid ?_
    have b1 := HB0.out.trans (q1.mono HB0.out.size)
    have m1 := HM0.out.below q1
    clear q1 HL HB0 HM0 HLt
    have HP1 := Lib.hid (HP.out w1 b1)
    by_cases hP : LightP 0 ps
    · rw [decide_eq_true hP] at HP1
      have hpv : ∀ q ∈ ps, q.2.size ≤ 9223372036854775807 := fun q hq => by have := hP.2.2 q hq; omega
      have HWk1 := Lib.hid (HWk.out hpv)
      have HAl1 := Lib.hid (HAl.out hpv)
      clear HWk HAl hP hpv
      go_wp2_with (go_at_call 14; refine HP1.out.mono ?_; rintro e w2 ⟨rfl, q2⟩; refine Hid.out ?_)
      refine Lib.hid ?_
      have b2 := b1.trans (q2.mono b1.size)
      have m2 := m1.below q2
      clear q2 b1 m1 HP1 HP
      have c0 := cell_heap (j := 0) m2
      have c1 := cell_heap (j := 1) m2
      have c2 := cell_heap (j := 2) m2
      have c3 := cell_heap (j := 3) m2
      simp only [List.getElem?_toArray, List.getElem?_cons_zero, List.getElem?_cons_succ] at c0 c1 c2 c3
      have HC2 := Lib.hid (HC.out w2 b2)
      by_cases hE : confE l ls pt rs = 0
      · have ht := conf_tree hE
        obtain ⟨hpos, hgood, hnd⟩ := walkL_tree ht htk
        have hLb : (walkL l tk).length ≤ 1000 := by
          have h1 := walkL_few l tk
          have h2 : (l.length + 1) * l.length ≤ 21 * 20 := Nat.mul_le_mul (by omega) hl20
          omega
        have HTr := Lib.hid ht
        have HG := Lib.hid hgood
        have HND := Lib.hid hnd
        rw [hE] at HC2
        clear hE ht hgood hnd HC
        go_wp2_with (go_at_call 18; refine HC2.out.mono ?_; rintro e w3 ⟨rfl, q3⟩; refine Hid.out ?_)
        refine Lib.hid ?_
        have b3 := b2.trans (q3.mono b2.size)
        have m3 := m2.below q3
        clear q3 b2 m2 HC2 c0 c1 c2 c3
        have c0 := cell_heap (j := 0) m3
        simp only [List.getElem?_toArray, List.getElem?_cons_zero] at c0
        have HWk2 := Lib.hid (HWk1.out w3 b3)
        generalize walkL l tk = L at *
        go_wp2_with (go_at_call 22; refine HWk2.out.mono ?_; rintro e w4 ⟨⟨ta, tc, rfl, i4⟩, q4⟩; refine Hid.out ?_)
        refine Lib.hid ?_
        have HB4 := Lib.hid (b3.trans (q4.mono b3.size))
        have HM4 := Lib.hid (m3.below q4)
        obtain ⟨tb, to, rfl, htb, hct⟩ := i4 hpos
        have HCt := Lib.hid hct
        clear q4 b3 m3 HWk2 HWk1 i4 c0 hct
        go_wp2
        go_loopw [6] (fun i wr => ∃ k : Nat, k ≤ L.length ∧ i = .int .i64 k ∧ Hid (Below w4.heap.size w4 wr)) (fun i _ => L.length - (intOf i).toNat)
        case atStart => exact ⟨0, Nat.zero_le _, rfl, Lib.hid (Below.refl _ _)⟩
        case round =>
          obtain ⟨i, hi, rfl, HB⟩ := hrel
          by_cases hil : i < L.length
          · have hil' : (i : Int) < (L.length : Int) := by omega
            have cL : ∀ j (hj : j < L.length), wr.cell? ⟨tb, to + j, none⟩ = some (.int .i64 ((L[j] : Nat) : Int)) := fun j hj => (HB.out.cell (p := ⟨tb, to + j, none⟩) htb).trans (HCt.out j hj)
            have ci := cL i hil
            have HGi := Lib.hid (HG.out _ (List.getElem_mem hil))
            by_cases hi0 : i = 0
            · have hi0' : ¬ (0 : Int) < (i : Int) := by omega
              have hi0n : ¬ 0 < i := by omega
              clear cL hi0
              go_wp2_with fail
              refine wp_region_any (by kernel_rfl) ?_
              change wpAny _ _ _ _ _ _ _ (World.drew _)
              have hS : (fun w' : World => w'.cell? ⟨tb, to + i, none⟩ = some (.int .i64 ((L[i] : Nat) : Int))) wr.drew := ci
              refine wpAny_of_held (S := fun w' => w'.cell? ⟨tb, to + i, none⟩ = some (.int .i64 ((L[i] : Nat) : Int))) _ _ _ _ ?_
              refine wpAnyH_take_at (i := 0) (some 33) (v := ?_) rfl rfl (by as_aux_lemma => kernel_rfl) (by as_aux_lemma => kernel_rfl) (by as_aux_lemma => kernel_rfl) (fun _ _ _ h => h) (Or.inl ⟨by kernel_rfl, ?_⟩) hS ?_
              rotate_left
              · intro w hSw; have e1 := hSw; go_simp
                first | done | with_reducible rfl
              skip
              refine wpAnyH_take_at (i := 1) (some 34) (v := ?_) rfl rfl (by as_aux_lemma => kernel_rfl) (by as_aux_lemma => kernel_rfl) (by as_aux_lemma => kernel_rfl) (fun _ _ _ h => h) (Or.inl ⟨by kernel_rfl, ?_⟩) hS ?_
              rotate_left
              · intro w hSw; have e1 := hSw; go_simp
                first | done | with_reducible rfl
              skip
              refine wpAnyH_take_at (i := 2) (some 35) (v := ?_) rfl rfl (by as_aux_lemma => kernel_rfl) (by as_aux_lemma => kernel_rfl) (by as_aux_lemma => kernel_rfl) (fun _ _ _ h => h) (Or.inl ⟨by kernel_rfl, ?_⟩) hS ?_
              rotate_left
              · intro w hSw; have e1 := hSw; go_simp
                first | done | with_reducible rfl
              skip
              refine wpAnyH_take_at (i := 3) (some 36) (v := undef) rfl rfl (by as_aux_lemma => kernel_rfl) (by as_aux_lemma => kernel_rfl) (by as_aux_lemma => kernel_rfl) (fun _ _ _ h => h) (Or.inr ⟨by kernel_rfl, rfl⟩) hS ?_
              skip
              refine wpAnyH_take_at (i := 4) (some 37) (v := undef) rfl rfl (by as_aux_lemma => kernel_rfl) (by as_aux_lemma => kernel_rfl) (by as_aux_lemma => kernel_rfl) (fun _ _ _ h => h) (Or.inr ⟨by kernel_rfl, rfl⟩) hS ?_
              skip
              refine wpAnyH_take_at (i := 5) (some 38) (v := undef) rfl rfl (by as_aux_lemma => kernel_rfl) (by as_aux_lemma => kernel_rfl) (by as_aux_lemma => kernel_rfl) (fun _ _ _ h => h) (Or.inr ⟨by kernel_rfl, rfl⟩) hS ?_
              skip
              refine wpAnyH_take_at (i := 6) (some 39) (v := undef) rfl rfl (by as_aux_lemma => kernel_rfl) (by as_aux_lemma => kernel_rfl) (by as_aux_lemma => kernel_rfl) (fun _ _ _ h => h) (Or.inr ⟨by kernel_rfl, rfl⟩) hS ?_
              skip
              refine wpAnyH_take_at (i := 7) (some 40) (v := undef) rfl rfl (by as_aux_lemma => kernel_rfl) (by as_aux_lemma => kernel_rfl) (by as_aux_lemma => kernel_rfl) (fun _ _ _ h => h) (Or.inr ⟨by kernel_rfl, rfl⟩) hS ?_
              skip
              refine wpAnyH_take_at (i := 8) (some 41) (v := undef) rfl rfl (by as_aux_lemma => kernel_rfl) (by as_aux_lemma => kernel_rfl) (by as_aux_lemma => kernel_rfl) (fun _ _ _ h => h) (Or.inr ⟨by kernel_rfl, rfl⟩) hS ?_
              skip
              refine wpAnyH_take_at (i := 9) (some 42) (v := undef) rfl rfl (by as_aux_lemma => kernel_rfl) (by as_aux_lemma => kernel_rfl) (by as_aux_lemma => kernel_rfl) (fun _ _ _ h => h) (Or.inr ⟨by kernel_rfl, rfl⟩) hS ?_
              skip
              refine wpAnyH_take_at (i := 10) (some 43) (v := undef) rfl rfl (by as_aux_lemma => kernel_rfl) (by as_aux_lemma => kernel_rfl) (by as_aux_lemma => kernel_rfl) (fun _ _ _ h => h) (Or.inr ⟨by kernel_rfl, rfl⟩) hS ?_
              skip
              refine wpAnyH_take_at (i := 11) (some 44) (v := undef) rfl rfl (by as_aux_lemma => kernel_rfl) (by as_aux_lemma => kernel_rfl) (by as_aux_lemma => kernel_rfl) (fun _ _ _ h => h) (Or.inr ⟨by kernel_rfl, rfl⟩) hS ?_
              skip
              refine wpAnyH_take_at (i := 12) (some 45) (v := undef) rfl rfl (by as_aux_lemma => kernel_rfl) (by as_aux_lemma => kernel_rfl) (by as_aux_lemma => kernel_rfl) (fun _ _ _ h => h) (Or.inr ⟨by kernel_rfl, rfl⟩) hS ?_
              skip
              refine wpAnyH_take_at (i := 13) (some 46) (v := ?_) rfl rfl (by as_aux_lemma => kernel_rfl) (by as_aux_lemma => kernel_rfl) (by as_aux_lemma => kernel_rfl) (fun _ _ _ h => h) (Or.inl ⟨by kernel_rfl, ?_⟩) hS ?_
              rotate_left
              · intro w hSw; have e1 := hSw; go_simp
                first | done | with_reducible rfl
              skip
              refine wpAnyH_done (by kernel_rfl) ?_ _
              have HB5 : Hid (Below w4.heap.size w4 wr.drew) := Lib.hid HB.out.drew
              have ci5 : wr.drew.cell? ⟨tb, to + i, none⟩ = some (.int .i64 ((L[i] : Nat) : Int)) := ci
              clear HB ci
              clear hS
              go_simp
              generalize wr.drew = w5 at *
              go_wp2
              clear ci5
              go_loopw [7] (fun z wr => ∃ x : Int, z = .int .i64 x ∧ Hid (x = -1 ∨ ∃ y : Nat, x = (y : Int) ∧ Good l tk y) ∧ Hid (Below w4.heap.size w4 wr)) (fun z _ => (intOf z + 1).toNat)
              case atStart => exact ⟨_, rfl, Lib.hid (Or.inr ⟨_, rfl, HGi.out⟩), HB5⟩
              case round =>
                clear HB5
                obtain ⟨x, rfl, HX, HB⟩ := hrel
                rcases HX.out with hx | ⟨y, hx, hg⟩
                · subst hx
                  clear HX
                  go_wp2
                  go_loopw [8] (fun z wr => ∃ k : Nat, k ≤ i ∧ z = .int .i64 k ∧ Hid (Below w4.heap.size w4 wr)) (fun z _ => i - (intOf z).toNat)
                  case atStart => exact ⟨0, Nat.zero_le _, rfl, HB⟩
                  case round =>
                    clear HB
                    obtain ⟨k, hk, rfl, HB⟩ := hrel
                    by_cases hki : k < i
                    · have hki' : (k : Int) < (i : Int) := by omega
                      have hkl' : (k : Int) < (L.length : Int) := by omega
                      have ci : wr.cell? ⟨tb, to + i, none⟩ = some (.int .i64 ((L[i] : Nat) : Int)) := (HB.out.cell (p := ⟨tb, to + i, none⟩) htb).trans (HCt.out i hil)
                      have ck : wr.cell? ⟨tb, to + k, none⟩ = some (.int .i64 ((L[k]'(by omega) : Nat) : Int)) := (HB.out.cell (p := ⟨tb, to + k, none⟩) htb).trans (HCt.out k (by omega))
                      have hne : ((((L[k]'(by omega) : Nat) : Int)) == ((L[i] : Nat) : Int)) = false := by
                        have := HND.out k i (by omega) hil hki
                        rw [beq_eq_false_iff_ne]
                        omega
                      generalize L[k]'(by omega) = Lk at *
                      generalize L[i] = Li at *
                      go_wp2_with fail
                      refine wp_region_any (by kernel_rfl) ?_
                      change wpAny _ _ _ _ _ _ _ (World.drew _)
                      have hS : (fun w' : World => w'.cell? ⟨tb, to + k, none⟩ = some (.int .i64 (Lk : Int)) ∧ w'.cell? ⟨tb, to + i, none⟩ = some (.int .i64 (Li : Int))) wr.drew := ⟨ck, ci⟩
                      refine wpAny_of_held (S := fun w' => w'.cell? ⟨tb, to + k, none⟩ = some (.int .i64 (Lk : Int)) ∧ w'.cell? ⟨tb, to + i, none⟩ = some (.int .i64 (Li : Int))) _ _ _ _ ?_
                      refine wpAnyH_take_at (i := 0) (some 80) (v := ?_) rfl rfl (by as_aux_lemma => kernel_rfl) (by as_aux_lemma => kernel_rfl) (by as_aux_lemma => kernel_rfl) (fun _ _ _ h => h) (Or.inl ⟨by kernel_rfl, ?_⟩) hS ?_
                      rotate_left
                      · intro w hSw; obtain ⟨e1, e2⟩ := hSw; go_simp
                        first | done | with_reducible rfl
                      skip
                      refine wpAnyH_take_at (i := 1) (some 81) (v := ?_) rfl rfl (by as_aux_lemma => kernel_rfl) (by as_aux_lemma => kernel_rfl) (by as_aux_lemma => kernel_rfl) (fun _ _ _ h => h) (Or.inl ⟨by kernel_rfl, ?_⟩) hS ?_
                      rotate_left
                      · intro w hSw; obtain ⟨e1, e2⟩ := hSw; go_simp
                        first | done | with_reducible rfl
                      skip
                      refine wpAnyH_take_at (i := 2) (some 82) (v := ?_) rfl rfl (by as_aux_lemma => kernel_rfl) (by as_aux_lemma => kernel_rfl) (by as_aux_lemma => kernel_rfl) (fun _ _ _ h => h) (Or.inl ⟨by kernel_rfl, ?_⟩) hS ?_
                      rotate_left
                      · intro w hSw; obtain ⟨e1, e2⟩ := hSw; go_simp
                        first | done | with_reducible rfl
                      skip
                      refine wpAnyH_take_at (i := 3) (some 83) (v := ?_) rfl rfl (by as_aux_lemma => kernel_rfl) (by as_aux_lemma => kernel_rfl) (by as_aux_lemma => kernel_rfl) (fun _ _ _ h => h) (Or.inl ⟨by kernel_rfl, ?_⟩) hS ?_
                      rotate_left
                      · intro w hSw; obtain ⟨e1, e2⟩ := hSw; go_simp
                        first | done | with_reducible rfl
                      skip
                      refine wpAnyH_take_at (i := 4) (some 84) (v := ?_) rfl rfl (by as_aux_lemma => kernel_rfl) (by as_aux_lemma => kernel_rfl) (by as_aux_lemma => kernel_rfl) (fun _ _ _ h => h) (Or.inl ⟨by kernel_rfl, ?_⟩) hS ?_
                      rotate_left
                      · intro w hSw; obtain ⟨e1, e2⟩ := hSw; go_simp
                        first | done | with_reducible rfl
                      skip
                      refine wpAnyH_take_at (i := 5) (some 85) (v := ?_) rfl rfl (by as_aux_lemma => kernel_rfl) (by as_aux_lemma => kernel_rfl) (by as_aux_lemma => kernel_rfl) (fun _ _ _ h => h) (Or.inl ⟨by kernel_rfl, ?_⟩) hS ?_
                      rotate_left
                      · intro w hSw; obtain ⟨e1, e2⟩ := hSw; go_simp
                        first | done | with_reducible rfl
                      skip
                      refine wpAnyH_take_at (i := 6) (some 86) (v := ?_) rfl rfl (by as_aux_lemma => kernel_rfl) (by as_aux_lemma => kernel_rfl) (by as_aux_lemma => kernel_rfl) (fun _ _ _ h => h) (Or.inl ⟨by kernel_rfl, ?_⟩) hS ?_
                      rotate_left
                      · intro w hSw; obtain ⟨e1, e2⟩ := hSw; go_simp
                        first | done | with_reducible rfl
                      skip
                      refine wpAnyH_take_at (i := 7) (some 87) (v := ?_) rfl rfl (by as_aux_lemma => kernel_rfl) (by as_aux_lemma => kernel_rfl) (by as_aux_lemma => kernel_rfl) (fun _ _ _ h => h) (Or.inl ⟨by kernel_rfl, ?_⟩) hS ?_
                      rotate_left
                      · intro w hSw; obtain ⟨e1, e2⟩ := hSw; go_simp
                        first | done | with_reducible rfl
                      skip
                      refine wpAnyH_take_at (i := 8) (some 88) (v := ?_) rfl rfl (by as_aux_lemma => kernel_rfl) (by as_aux_lemma => kernel_rfl) (by as_aux_lemma => kernel_rfl) (fun _ _ _ h => h) (Or.inl ⟨by kernel_rfl, ?_⟩) hS ?_
                      rotate_left
                      · intro w hSw; obtain ⟨e1, e2⟩ := hSw; go_simp
                        first | done | with_reducible rfl
                      skip
                      refine wpAnyH_done (by kernel_rfl) ?_ _
                      have HB5 : Hid (Below w4.heap.size w4 wr.drew) := Lib.hid HB.out.drew
                      clear HB ci ck
                      clear hS
                      go_simp
                      generalize wr.drew = w5 at *
                      go_wp2
                      go_roundw
                      case rel => exact ⟨k + 1, by omega, by go_num, HB5⟩
                      case measure => simp [intOf]; omega
                    · obtain rfl : k = i := by omega
                      go_wp2
                      go_roundw
                      case rel => exact ⟨k + 1, by omega, by go_num, HB⟩
                      case measure => simp [intOf]; omega
                · subst hx
                  obtain ⟨hy, hyk, hp⟩ := hg.out
                  have hy' : (y : Int) < (l.length : Int) := by omega
                  have hbw := HB4.out.trans (HB.out.mono HB4.out.size)
                  obtain ⟨rb, ro, rfl, hrb, hr⟩ := HR.out (by omega)
                  obtain ⟨hr1, hr2, -⟩ := hr y hy
                  have cc0 : wr.cell? ⟨w.heap.size, 0, none⟩ = some (.slice (some ⟨rb, ro, none⟩) l.length c) := cell_heap (HM4.out.below HB.out)
                  have cm : wr.cell? ⟨rb, ro + y * 8 + 1, none⟩ = some (.slice l[y].ma l[y].ms.length l[y].mc) := (hbw.cell (p := ⟨rb, ro + y * 8 + 1, none⟩) hrb).trans (hr1 1 _ rfl)
                  have HA := Lib.hid (HAl1.out l[y] (List.getElem_mem hy) wr hbw (hr2.below hbw (Nat.le_refl _)))
                  have HTk := Lib.hid (fun e (he : Tells (∀ m ∈ l[y].ms, mAsk ps m) e) => (tkP_of htk hy he).trans (by rw [hyk]))
                  have HPar := Lib.hid (hr1 0 _ rfl)
                  have HNx : Hid (∃ x : Int, l[y].par = x ∧ (x = -1 ∨ ∃ q : Nat, x = (q : Int) ∧ Good l tk q) ∧ x < (y : Int)) := Lib.hid (by
                    rcases hp with h0 | ⟨p, h1, h2⟩
                    · subst h0
                      exact ⟨-1, HTr.out.1.2.1, Or.inl rfl, by omega⟩
                    · have := tree_par HTr.out hy h1
                      exact ⟨(p : Int), h1, Or.inr ⟨p, rfl, h2⟩, by omega⟩)
                  clear hr hr1 hr2 hp hg HX hyk
                  go_wp2_with (go_at_call 30; refine HA.out.mono ?_; rintro e w6 ⟨he, q6⟩; obtain rfl := HTk.out _ he; clear he; refine Hid.out ?_)
                  refine Lib.hid ?_
                  have HB6 := Lib.hid (HB.out.trans (q6.mono HB.out.size))
                  have cc6 : w6.cell? ⟨w.heap.size, 0, none⟩ = some (.slice (some ⟨rb, ro, none⟩) l.length c) := cell_heap (HM4.out.below HB6.out)
                  obtain ⟨x, hx1, hx2, hx3⟩ := HNx.out
                  have cp : w6.cell? ⟨rb, ro + y * 8, none⟩ = some (.int .i64 x) := by
                    have := ((HB4.out.trans (HB6.out.mono HB4.out.size)).cell (p := ⟨rb, ro + y * 8 + 0, none⟩) hrb).trans HPar.out
                    rw [hx1] at this
                    exact this
                  have HX2 := Lib.hid hx2
                  clear cc0 cm q6 HB hx1 hx2 HNx HPar HA HTk hbw
                  go_wp2
                  go_roundw
                  case rel => exact ⟨x, rfl, HX2, HB6⟩
                  case measure => simp [intOf]; omega
            · have hi0' : (0 : Int) < (i : Int) := by omega
              have hi0n : 0 < i := by omega
              have cj := cL (i - 1) (by omega)
              have hsub : IntKind.i64.wrap ((i : Int) - 1) = ((i - 1 : Nat) : Int) := by rw [IntKind.wrap_i64]; omega
              have hjl : ((i - 1 : Nat) : Int) < (L.length : Int) := by omega
              have hne : (((L[i] : Nat) : Int) == ((L[i - 1]'(by omega) : Nat) : Int)) = false := by
                have := HND.out (i - 1) i (by omega) hil (by omega)
                rw [beq_eq_false_iff_ne]
                omega
              clear cL
              go_wp2_with fail
              refine wp_region_any (by kernel_rfl) ?_
              change wpAny _ _ _ _ _ _ _ (World.drew _)
              have hS : (fun w' : World => w'.cell? ⟨tb, to + i, none⟩ = some (.int .i64 ((L[i] : Nat) : Int)) ∧ w'.cell? ⟨tb, to + (i - 1), none⟩ = some (.int .i64 ((L[i - 1]'(by omega) : Nat) : Int))) wr.drew := ⟨ci, cj⟩
              refine wpAny_of_held (S := fun w' => w'.cell? ⟨tb, to + i, none⟩ = some (.int .i64 ((L[i] : Nat) : Int)) ∧ w'.cell? ⟨tb, to + (i - 1), none⟩ = some (.int .i64 ((L[i - 1]'(by omega) : Nat) : Int))) _ _ _ _ ?_
              refine wpAnyH_take_at (i := 0) (some 33) (v := ?_) rfl rfl (by as_aux_lemma => kernel_rfl) (by as_aux_lemma => kernel_rfl) (by as_aux_lemma => kernel_rfl) (fun _ _ _ h => h) (Or.inl ⟨by kernel_rfl, ?_⟩) hS ?_
              rotate_left
              · intro w hSw; obtain ⟨e1, e2⟩ := hSw; go_simp; try simp only [hsub, hjl, Int.toNat_natCast, hne, e2]
                first | done | with_reducible rfl
              skip
              refine wpAnyH_take_at (i := 1) (some 34) (v := ?_) rfl rfl (by as_aux_lemma => kernel_rfl) (by as_aux_lemma => kernel_rfl) (by as_aux_lemma => kernel_rfl) (fun _ _ _ h => h) (Or.inl ⟨by kernel_rfl, ?_⟩) hS ?_
              rotate_left
              · intro w hSw; obtain ⟨e1, e2⟩ := hSw; go_simp; try simp only [hsub, hjl, Int.toNat_natCast, hne, e2]
                first | done | with_reducible rfl
              skip
              refine wpAnyH_take_at (i := 2) (some 35) (v := ?_) rfl rfl (by as_aux_lemma => kernel_rfl) (by as_aux_lemma => kernel_rfl) (by as_aux_lemma => kernel_rfl) (fun _ _ _ h => h) (Or.inl ⟨by kernel_rfl, ?_⟩) hS ?_
              rotate_left
              · intro w hSw; obtain ⟨e1, e2⟩ := hSw; go_simp; try simp only [hsub, hjl, Int.toNat_natCast, hne, e2]
                first | done | with_reducible rfl
              skip
              refine wpAnyH_take_at (i := 3) (some 36) (v := ?_) rfl rfl (by as_aux_lemma => kernel_rfl) (by as_aux_lemma => kernel_rfl) (by as_aux_lemma => kernel_rfl) (fun _ _ _ h => h) (Or.inl ⟨by kernel_rfl, ?_⟩) hS ?_
              rotate_left
              · intro w hSw; obtain ⟨e1, e2⟩ := hSw; go_simp; try simp only [hsub, hjl, Int.toNat_natCast, hne, e2]
                first | done | with_reducible rfl
              skip
              refine wpAnyH_take_at (i := 4) (some 37) (v := ?_) rfl rfl (by as_aux_lemma => kernel_rfl) (by as_aux_lemma => kernel_rfl) (by as_aux_lemma => kernel_rfl) (fun _ _ _ h => h) (Or.inl ⟨by kernel_rfl, ?_⟩) hS ?_
              rotate_left
              · intro w hSw; obtain ⟨e1, e2⟩ := hSw; go_simp; try simp only [hsub, hjl, Int.toNat_natCast, hne, e2]
                first | done | with_reducible rfl
              skip
              refine wpAnyH_take_at (i := 5) (some 38) (v := ?_) rfl rfl (by as_aux_lemma => kernel_rfl) (by as_aux_lemma => kernel_rfl) (by as_aux_lemma => kernel_rfl) (fun _ _ _ h => h) (Or.inl ⟨by kernel_rfl, ?_⟩) hS ?_
              rotate_left
              · intro w hSw; obtain ⟨e1, e2⟩ := hSw; go_simp; try simp only [hsub, hjl, Int.toNat_natCast, hne, e2]
                first | done | with_reducible rfl
              skip
              refine wpAnyH_take_at (i := 6) (some 39) (v := ?_) rfl rfl (by as_aux_lemma => kernel_rfl) (by as_aux_lemma => kernel_rfl) (by as_aux_lemma => kernel_rfl) (fun _ _ _ h => h) (Or.inl ⟨by kernel_rfl, ?_⟩) hS ?_
              rotate_left
              · intro w hSw; obtain ⟨e1, e2⟩ := hSw; go_simp; try simp only [hsub, hjl, Int.toNat_natCast, hne, e2]
                first | done | with_reducible rfl
              skip
              refine wpAnyH_take_at (i := 7) (some 40) (v := ?_) rfl rfl (by as_aux_lemma => kernel_rfl) (by as_aux_lemma => kernel_rfl) (by as_aux_lemma => kernel_rfl) (fun _ _ _ h => h) (Or.inl ⟨by kernel_rfl, ?_⟩) hS ?_
              rotate_left
              · intro w hSw; obtain ⟨e1, e2⟩ := hSw; go_simp; try simp only [hsub, hjl, Int.toNat_natCast, hne, e2]
                first | done | with_reducible rfl
              skip
              refine wpAnyH_take_at (i := 8) (some 41) (v := ?_) rfl rfl (by as_aux_lemma => kernel_rfl) (by as_aux_lemma => kernel_rfl) (by as_aux_lemma => kernel_rfl) (fun _ _ _ h => h) (Or.inl ⟨by kernel_rfl, ?_⟩) hS ?_
              rotate_left
              · intro w hSw; obtain ⟨e1, e2⟩ := hSw; go_simp; try simp only [hsub, hjl, Int.toNat_natCast, hne, e2]
                first | done | with_reducible rfl
              skip
              refine wpAnyH_take_at (i := 9) (some 42) (v := ?_) rfl rfl (by as_aux_lemma => kernel_rfl) (by as_aux_lemma => kernel_rfl) (by as_aux_lemma => kernel_rfl) (fun _ _ _ h => h) (Or.inl ⟨by kernel_rfl, ?_⟩) hS ?_
              rotate_left
              · intro w hSw; obtain ⟨e1, e2⟩ := hSw; go_simp; try simp only [hsub, hjl, Int.toNat_natCast, hne, e2]
                first | done | with_reducible rfl
              skip
              refine wpAnyH_take_at (i := 10) (some 43) (v := ?_) rfl rfl (by as_aux_lemma => kernel_rfl) (by as_aux_lemma => kernel_rfl) (by as_aux_lemma => kernel_rfl) (fun _ _ _ h => h) (Or.inl ⟨by kernel_rfl, ?_⟩) hS ?_
              rotate_left
              · intro w hSw; obtain ⟨e1, e2⟩ := hSw; go_simp; try simp only [hsub, hjl, Int.toNat_natCast, hne, e2]
                first | done | with_reducible rfl
              skip
              refine wpAnyH_take_at (i := 11) (some 44) (v := ?_) rfl rfl (by as_aux_lemma => kernel_rfl) (by as_aux_lemma => kernel_rfl) (by as_aux_lemma => kernel_rfl) (fun _ _ _ h => h) (Or.inl ⟨by kernel_rfl, ?_⟩) hS ?_
              rotate_left
              · intro w hSw; obtain ⟨e1, e2⟩ := hSw; go_simp; try simp only [hsub, hjl, Int.toNat_natCast, hne, e2]
                first | done | with_reducible rfl
              skip
              refine wpAnyH_take_at (i := 12) (some 45) (v := ?_) rfl rfl (by as_aux_lemma => kernel_rfl) (by as_aux_lemma => kernel_rfl) (by as_aux_lemma => kernel_rfl) (fun _ _ _ h => h) (Or.inl ⟨by kernel_rfl, ?_⟩) hS ?_
              rotate_left
              · intro w hSw; obtain ⟨e1, e2⟩ := hSw; go_simp; try simp only [hsub, hjl, Int.toNat_natCast, hne, e2]
                first | done | with_reducible rfl
              skip
              refine wpAnyH_take_at (i := 13) (some 46) (v := ?_) rfl rfl (by as_aux_lemma => kernel_rfl) (by as_aux_lemma => kernel_rfl) (by as_aux_lemma => kernel_rfl) (fun _ _ _ h => h) (Or.inl ⟨by kernel_rfl, ?_⟩) hS ?_
              rotate_left
              · intro w hSw; obtain ⟨e1, e2⟩ := hSw; go_simp; try simp only [hsub, hjl, Int.toNat_natCast, hne, e2]
                first | done | with_reducible rfl
              skip
              refine wpAnyH_done (by kernel_rfl) ?_ _
              have HB5 : Hid (Below w4.heap.size w4 wr.drew) := Lib.hid HB.out.drew
              have ci5 : wr.drew.cell? ⟨tb, to + i, none⟩ = some (.int .i64 ((L[i] : Nat) : Int)) := ci
              clear HB ci cj hne
              clear hS
              go_simp
              generalize wr.drew = w5 at *
              go_wp2
              clear ci5
              go_loopw [7] (fun z wr => ∃ x : Int, z = .int .i64 x ∧ Hid (x = -1 ∨ ∃ y : Nat, x = (y : Int) ∧ Good l tk y) ∧ Hid (Below w4.heap.size w4 wr)) (fun z _ => (intOf z + 1).toNat)
              case atStart => exact ⟨_, rfl, Lib.hid (Or.inr ⟨_, rfl, HGi.out⟩), HB5⟩
              case round =>
                clear HB5
                obtain ⟨x, rfl, HX, HB⟩ := hrel
                rcases HX.out with hx | ⟨y, hx, hg⟩
                · subst hx
                  clear HX
                  go_wp2
                  go_loopw [8] (fun z wr => ∃ k : Nat, k ≤ i ∧ z = .int .i64 k ∧ Hid (Below w4.heap.size w4 wr)) (fun z _ => i - (intOf z).toNat)
                  case atStart => exact ⟨0, Nat.zero_le _, rfl, HB⟩
                  case round =>
                    clear HB
                    obtain ⟨k, hk, rfl, HB⟩ := hrel
                    by_cases hki : k < i
                    · have hki' : (k : Int) < (i : Int) := by omega
                      have hkl' : (k : Int) < (L.length : Int) := by omega
                      have ci : wr.cell? ⟨tb, to + i, none⟩ = some (.int .i64 ((L[i] : Nat) : Int)) := (HB.out.cell (p := ⟨tb, to + i, none⟩) htb).trans (HCt.out i hil)
                      have ck : wr.cell? ⟨tb, to + k, none⟩ = some (.int .i64 ((L[k]'(by omega) : Nat) : Int)) := (HB.out.cell (p := ⟨tb, to + k, none⟩) htb).trans (HCt.out k (by omega))
                      have hne : ((((L[k]'(by omega) : Nat) : Int)) == ((L[i] : Nat) : Int)) = false := by
                        have := HND.out k i (by omega) hil hki
                        rw [beq_eq_false_iff_ne]
                        omega
                      generalize L[k]'(by omega) = Lk at *
                      generalize L[i] = Li at *
                      go_wp2_with fail
                      refine wp_region_any (by kernel_rfl) ?_
                      change wpAny _ _ _ _ _ _ _ (World.drew _)
                      have hS : (fun w' : World => w'.cell? ⟨tb, to + k, none⟩ = some (.int .i64 (Lk : Int)) ∧ w'.cell? ⟨tb, to + i, none⟩ = some (.int .i64 (Li : Int))) wr.drew := ⟨ck, ci⟩
                      refine wpAny_of_held (S := fun w' => w'.cell? ⟨tb, to + k, none⟩ = some (.int .i64 (Lk : Int)) ∧ w'.cell? ⟨tb, to + i, none⟩ = some (.int .i64 (Li : Int))) _ _ _ _ ?_
                      refine wpAnyH_take_at (i := 0) (some 80) (v := ?_) rfl rfl (by as_aux_lemma => kernel_rfl) (by as_aux_lemma => kernel_rfl) (by as_aux_lemma => kernel_rfl) (fun _ _ _ h => h) (Or.inl ⟨by kernel_rfl, ?_⟩) hS ?_
                      rotate_left
                      · intro w hSw; obtain ⟨e1, e2⟩ := hSw; go_simp
                        first | done | with_reducible rfl
                      skip
                      refine wpAnyH_take_at (i := 1) (some 81) (v := ?_) rfl rfl (by as_aux_lemma => kernel_rfl) (by as_aux_lemma => kernel_rfl) (by as_aux_lemma => kernel_rfl) (fun _ _ _ h => h) (Or.inl ⟨by kernel_rfl, ?_⟩) hS ?_
                      rotate_left
                      · intro w hSw; obtain ⟨e1, e2⟩ := hSw; go_simp
                        first | done | with_reducible rfl
                      skip
                      refine wpAnyH_take_at (i := 2) (some 82) (v := ?_) rfl rfl (by as_aux_lemma => kernel_rfl) (by as_aux_lemma => kernel_rfl) (by as_aux_lemma => kernel_rfl) (fun _ _ _ h => h) (Or.inl ⟨by kernel_rfl, ?_⟩) hS ?_
                      rotate_left
                      · intro w hSw; obtain ⟨e1, e2⟩ := hSw; go_simp
                        first | done | with_reducible rfl
                      skip
                      refine wpAnyH_take_at (i := 3) (some 83) (v := ?_) rfl rfl (by as_aux_lemma => kernel_rfl) (by as_aux_lemma => kernel_rfl) (by as_aux_lemma => kernel_rfl) (fun _ _ _ h => h) (Or.inl ⟨by kernel_rfl, ?_⟩) hS ?_
                      rotate_left
                      · intro w hSw; obtain ⟨e1, e2⟩ := hSw; go_simp
                        first | done | with_reducible rfl
                      skip
                      refine wpAnyH_take_at (i := 4) (some 84) (v := ?_) rfl rfl (by as_aux_lemma => kernel_rfl) (by as_aux_lemma => kernel_rfl) (by as_aux_lemma => kernel_rfl) (fun _ _ _ h => h) (Or.inl ⟨by kernel_rfl, ?_⟩) hS ?_
                      rotate_left
                      · intro w hSw; obtain ⟨e1, e2⟩ := hSw; go_simp
                        first | done | with_reducible rfl
                      skip
                      refine wpAnyH_take_at (i := 5) (some 85) (v := ?_) rfl rfl (by as_aux_lemma => kernel_rfl) (by as_aux_lemma => kernel_rfl) (by as_aux_lemma => kernel_rfl) (fun _ _ _ h => h) (Or.inl ⟨by kernel_rfl, ?_⟩) hS ?_
                      rotate_left
                      · intro w hSw; obtain ⟨e1, e2⟩ := hSw; go_simp
                        first | done | with_reducible rfl
                      skip
                      refine wpAnyH_take_at (i := 6) (some 86) (v := ?_) rfl rfl (by as_aux_lemma => kernel_rfl) (by as_aux_lemma => kernel_rfl) (by as_aux_lemma => kernel_rfl) (fun _ _ _ h => h) (Or.inl ⟨by kernel_rfl, ?_⟩) hS ?_
                      rotate_left
                      · intro w hSw; obtain ⟨e1, e2⟩ := hSw; go_simp
                        first | done | with_reducible rfl
                      skip
                      refine wpAnyH_take_at (i := 7) (some 87) (v := ?_) rfl rfl (by as_aux_lemma => kernel_rfl) (by as_aux_lemma => kernel_rfl) (by as_aux_lemma => kernel_rfl) (fun _ _ _ h => h) (Or.inl ⟨by kernel_rfl, ?_⟩) hS ?_
                      rotate_left
                      · intro w hSw; obtain ⟨e1, e2⟩ := hSw; go_simp
                        first | done | with_reducible rfl
                      skip
                      refine wpAnyH_take_at (i := 8) (some 88) (v := ?_) rfl rfl (by as_aux_lemma => kernel_rfl) (by as_aux_lemma => kernel_rfl) (by as_aux_lemma => kernel_rfl) (fun _ _ _ h => h) (Or.inl ⟨by kernel_rfl, ?_⟩) hS ?_
                      rotate_left
                      · intro w hSw; obtain ⟨e1, e2⟩ := hSw; go_simp
                        first | done | with_reducible rfl
                      skip
                      refine wpAnyH_done (by kernel_rfl) ?_ _
                      have HB5 : Hid (Below w4.heap.size w4 wr.drew) := Lib.hid HB.out.drew
                      clear HB ci ck
                      clear hS
                      go_simp
                      generalize wr.drew = w5 at *
                      go_wp2
                      go_roundw
                      case rel => exact ⟨k + 1, by omega, by go_num, HB5⟩
                      case measure => simp [intOf]; omega
                    · obtain rfl : k = i := by omega
                      go_wp2
                      go_roundw
                      case rel => exact ⟨k + 1, by omega, by go_num, HB⟩
                      case measure => simp [intOf]; omega
                · subst hx
                  obtain ⟨hy, hyk, hp⟩ := hg.out
                  have hy' : (y : Int) < (l.length : Int) := by omega
                  have hbw := HB4.out.trans (HB.out.mono HB4.out.size)
                  obtain ⟨rb, ro, rfl, hrb, hr⟩ := HR.out (by omega)
                  obtain ⟨hr1, hr2, -⟩ := hr y hy
                  have cc0 : wr.cell? ⟨w.heap.size, 0, none⟩ = some (.slice (some ⟨rb, ro, none⟩) l.length c) := cell_heap (HM4.out.below HB.out)
                  have cm : wr.cell? ⟨rb, ro + y * 8 + 1, none⟩ = some (.slice l[y].ma l[y].ms.length l[y].mc) := (hbw.cell (p := ⟨rb, ro + y * 8 + 1, none⟩) hrb).trans (hr1 1 _ rfl)
                  have HA := Lib.hid (HAl1.out l[y] (List.getElem_mem hy) wr hbw (hr2.below hbw (Nat.le_refl _)))
                  have HTk := Lib.hid (fun e (he : Tells (∀ m ∈ l[y].ms, mAsk ps m) e) => (tkP_of htk hy he).trans (by rw [hyk]))
                  have HPar := Lib.hid (hr1 0 _ rfl)
                  have HNx : Hid (∃ x : Int, l[y].par = x ∧ (x = -1 ∨ ∃ q : Nat, x = (q : Int) ∧ Good l tk q) ∧ x < (y : Int)) := Lib.hid (by
                    rcases hp with h0 | ⟨p, h1, h2⟩
                    · subst h0
                      exact ⟨-1, HTr.out.1.2.1, Or.inl rfl, by omega⟩
                    · have := tree_par HTr.out hy h1
                      exact ⟨(p : Int), h1, Or.inr ⟨p, rfl, h2⟩, by omega⟩)
                  clear hr hr1 hr2 hp hg HX hyk
                  go_wp2_with (go_at_call 30; refine HA.out.mono ?_; rintro e w6 ⟨he, q6⟩; obtain rfl := HTk.out _ he; clear he; refine Hid.out ?_)
                  refine Lib.hid ?_
                  have HB6 := Lib.hid (HB.out.trans (q6.mono HB.out.size))
                  have cc6 : w6.cell? ⟨w.heap.size, 0, none⟩ = some (.slice (some ⟨rb, ro, none⟩) l.length c) := cell_heap (HM4.out.below HB6.out)
                  obtain ⟨x, hx1, hx2, hx3⟩ := HNx.out
                  have cp : w6.cell? ⟨rb, ro + y * 8, none⟩ = some (.int .i64 x) := by
                    have := ((HB4.out.trans (HB6.out.mono HB4.out.size)).cell (p := ⟨rb, ro + y * 8 + 0, none⟩) hrb).trans HPar.out
                    rw [hx1] at this
                    exact this
                  have HX2 := Lib.hid hx2
                  clear cc0 cm q6 HB hx1 hx2 HNx HPar HA HTk hbw
                  go_wp2
                  go_roundw
                  case rel => exact ⟨x, rfl, HX2, HB6⟩
                  case measure => simp [intOf]; omega
          · obtain rfl : i = L.length := by omega
            have hpos' : (0 : Int) < (L.length : Int) := by omega
            have HBe := Lib.hid (HB4.out.trans (HB.out.mono HB4.out.size))
            have HW5 := Lib.hid (HW.out _ HBe.out)
            go_wp2_with (go_at_call 20; refine HW5.out.mono ?_; rintro e w5 ⟨rfl, q5⟩)
            go_ret
            exact ⟨rfl, HBe.out.trans (q5.mono HBe.out.size)⟩
      · generalize confE l ls pt rs = G at *
        have hE' : (G == 0) = false := by simpa using hE
        go_wp2_with (go_at_call 18; refine HC2.out.mono ?_; rintro e w3 ⟨rfl, q3⟩; refine Hid.out ?_)
        refine Lib.hid ?_
        have b3 := b2.trans (q3.mono b2.size)
        have HW3 := Lib.hid (HW.out w3 b3)
        clear q3
        go_wp2_with (go_at_call 20; refine HW3.out.mono ?_; rintro e w5 ⟨rfl, q5⟩)
        go_ret
        exact ⟨rfl, b3.trans (q5.mono b3.size)⟩
    · rw [decide_eq_false hP] at HP1
      clear hP
      go_wp2_with (go_at_call 14; refine HP1.out.mono ?_; rintro e w2 ⟨rfl, q2⟩; refine Hid.out ?_)
      refine Lib.hid ?_
      have b2 := b1.trans (q2.mono b1.size)
      have HW3 := Lib.hid (HW.out w2 b2)
      go_wp2_with (go_at_call 20; refine HW3.out.mono ?_; rintro e w5 ⟨rfl, q5⟩)
      go_ret
      exact ⟨rfl, b2.trans (q5.mono b2.size)⟩
  · have HLt := Lib.hid hL
    clear hA hm0 hl hls okl okls hps htab hL
    go_enter Tryd.func8, Tryd.ntmps8
    go_wp2_with (go_at_call 17; refine HL.out.mono ?_; rintro e w1 ⟨ht, q1⟩; obtain rfl := tells_no ht HLt.out; clear ht; refine Hid.out ?_)
    refine Lib.hid ?_
    have b1 := HB0.out.trans (q1.mono HB0.out.size)
    have HW3 := Lib.hid (HW.out w1 b1)
    go_wp2_with (go_at_call 20; refine HW3.out.mono ?_; rintro e w5 ⟨rfl, q5⟩)
    go_ret
    exact ⟨rfl, b1.trans (q5.mono b1.size)⟩

end Go.Proofs.YtbkejafjlapmnaaDoor
