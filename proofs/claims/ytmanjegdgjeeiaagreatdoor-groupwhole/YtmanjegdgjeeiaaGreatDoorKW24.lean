/-
  The sort of groups: by their routes, and of one route by their keys. The map of the groups' places; what own of package group does.
-/
import Derived.Test.YtmanjegdgjeeiaaGreatDoorKW23
import Derived.Test.YtmanjegdgjeeiaaGreatDoorKW20
import Derived.Shelf.SlSortCmp.WholeK
import Derived.Shelf.SlSortCmp.NoneTotal
namespace Go.Proofs.YtmanjegdgjeeiaaGreatDoor
open Go.RowKit

theorem OwnP.at {w : World} {B : Nat} {a : Option Addr} {n c : Nat} {ps : List Pr} (h : OwnP w B (.slice a n c) ps) : PairsAt w a ps := by
  obtain ⟨a', c', hv, hat, -⟩ := h.form
  simp only [Value.slice.injEq] at hv
  obtain ⟨rfl, -, -⟩ := hv
  exact hat

/-- One group comes ahead of another. -/
def Gm.less (x y : Gm) : Prop := x.rt < y.rt ∨ (x.rt = y.rt ∧ x.key < y.key)
theorem ltGm (x y : Gm) : ltOf gcmp x y = true ↔ x.less y := by
  unfold ltOf gcmp Gm.less
  rw [decide_eq_true_eq]
  have hk := cmp_ltK x.key y.key
  rcases Nat.lt_trichotomy x.rt y.rt with h | h | h
  · have e : cmpI x.rt y.rt = -1 := by unfold cmpI; rw [if_pos (by omega)]
    rw [e]
    simp [orI, h]
  · have e : cmpI x.rt y.rt = 0 := by unfold cmpI; rw [if_neg (by omega), if_neg (by omega)]
    rw [e]
    simp only [orI, if_pos, h]
    rw [hk]
    simp
  · have e : cmpI x.rt y.rt = 1 := by unfold cmpI; rw [if_neg (by omega), if_pos (by omega)]
    rw [e]
    have h1 : ¬ x.rt < y.rt := by omega
    have h2 : ¬ x.rt = y.rt := by omega
    simp [orI, h1, h2]
theorem ltGm_false (x y : Gm) : ltOf gcmp x y = false ↔ ¬ x.less y := by
  rw [← ltGm]
  simp
theorem Gm.less_trans {x y z : Gm} (h1 : x.less y) (h2 : y.less z) : x.less z := by
  rcases h1 with h1 | ⟨h1, k1⟩ <;> rcases h2 with h2 | ⟨h2, k2⟩
  · exact .inl (by omega)
  · exact .inl (by omega)
  · exact .inl (by omega)
  · exact .inr ⟨by omega, key_trans k1 k2⟩
theorem Gm.less_or {x y : Gm} (h1 : ¬ x.less y) (h2 : ¬ y.less x) : x.rt = y.rt ∧ x.key = y.key := by
  unfold Gm.less at h1 h2
  have e : x.rt = y.rt := by
    rcases Nat.lt_trichotomy x.rt y.rt with h | h | h
    · exact absurd (.inl h) h1
    · exact h
    · exact absurd (.inl h) h2
  refine ⟨e, ?_⟩
  by_cases hk : x.key = y.key
  · exact hk
  · rcases key_total hk with h | h
    · exact absurd (.inr ⟨e, h⟩) h1
    · exact absurd (.inr ⟨e.symm, h⟩) h2
theorem Gm.less_like {x y z : Gm} (e1 : x.rt = y.rt) (e2 : x.key = y.key) (h : x.less z) : y.less z := by
  unfold Gm.less at *
  rw [e1, e2] at h
  exact h
theorem swoGm : Sort.SWO (ltOf gcmp) where
  irrefl x := by
    rw [ltGm_false]
    rintro (h | ⟨-, h⟩)
    · omega
    · exact key_irrefl _ h
  trans x y z h1 h2 := by
    rw [ltGm] at *
    exact Gm.less_trans h1 h2
  ntrans x y z h1 h2 := by
    rw [ltGm_false] at *
    intro h
    by_cases hyx : y.less x
    · exact h2 (Gm.less_trans hyx h)
    · obtain ⟨e1, e2⟩ := Gm.less_or h1 hyx
      exact h2 (Gm.less_like e1 e2 h)

/-- Groups lie at an address, with what they hold. -/
def GroupsAt (w : World) (a : Option Addr) (G : List Gm) : Prop :=
  0 < G.length → ∃ g, a = some ⟨g, 0, none⟩ ∧ g < w.heap.size ∧ ∀ i (hi : i < G.length), w.cell? ⟨g, i * 4, none⟩ = some (.int .i64 G[i].rt) ∧ w.cell? ⟨g, i * 4 + 1, none⟩ = some (.slice G[i].la G[i].lb.length G[i].lc) ∧ w.cell? ⟨g, i * 4 + 2, none⟩ = some (.string ⟨G[i].key.toArray⟩) ∧ w.cell? ⟨g, i * 4 + 3, none⟩ = some (.slice G[i].aa G[i].al.length G[i].ac) ∧ PairsAt w G[i].la G[i].lb ∧ AlsAt w G[i].aa G[i].al
theorem GroupsAt.below {w w' : World} {B : Nat} {a : Option Addr} {G : List Gm} (h : GroupsAt w a G) (hb : Below B w w') (hB : w.heap.size ≤ B) : GroupsAt w' a G := fun hn => by
  obtain ⟨g, rfl, hgl, hc⟩ := h hn
  refine ⟨g, rfl, Nat.lt_of_lt_of_le hgl hb.size, fun i hi => ?_⟩
  obtain ⟨h1, h2, h3, h4, h5, h6⟩ := hc i hi
  have hlt := Nat.lt_of_lt_of_le hgl hB
  rw [hb.cell (p := ⟨g, i * 4, none⟩) hlt, hb.cell (p := ⟨g, i * 4 + 1, none⟩) hlt, hb.cell (p := ⟨g, i * 4 + 2, none⟩) hlt, hb.cell (p := ⟨g, i * 4 + 3, none⟩) hlt]
  exact ⟨h1, h2, h3, h4, h5.below hb hB, h6.below hb hB⟩

theorem encGm_at : ∀ (G : List Gm) (i c : Nat) (hi : i < G.length) (hc : c < 4), (cellsGm G)[i * 4 + c]? = some ((encG G[i])[c]'(by simpa [encG] using hc))
  | p :: r, 0, c, _, hc => by
    have e : cellsGm (p :: r) = encG p ++ cellsGm r := rfl
    have el : (encG p).length = 4 := rfl
    rw [e, Nat.zero_mul, Nat.zero_add, List.getElem?_append_left (by omega), List.getElem?_eq_getElem (by omega)]
    rfl
  | p :: r, i + 1, c, hi, hc => by
    have := encGm_at r i c (by simpa using hi) hc
    have e : cellsGm (p :: r) = encG p ++ cellsGm r := rfl
    have el : (encG p).length = 4 := rfl
    rw [e, List.getElem?_append_right (by omega), el, show (i + 1) * 4 + c - 4 = i * 4 + c by omega, this]
    rfl
theorem ownGm_holds [Inhabited Gm] {w : World} {B : Nat} {g c : Nat} {G : List Gm} (h : OwnG w B (.slice (some ⟨g, 0, none⟩) G.length c) G) : Sort.HoldsK encG 4 w g 0 G.toArray := by
  intro j hj
  have hj' : j < G.length * 4 := by simpa [Sort.size_flatK] using hj
  have hcl := World.ownsRow.cells h (g := g) rfl
  have hi : j / 4 < G.length := by omega
  have e : (Sort.flatK encG 4 G.toArray)[j]! = (cellsGm G)[j]?.getD default := by
    rw [Sort.get_flatK _ _ _ _ (by simpa using hj')]
    have e1 := encGm_at G (j / 4) (j % 4) hi (Nat.mod_lt _ (by omega))
    rw [show j / 4 * 4 + j % 4 = j by omega] at e1
    rw [e1, getElem!_pos G.toArray (j / 4) (by simpa using hi)]
    show (encG G[j / 4])[j % 4]! = _
    rw [getElem!_pos (encG G[j / 4]) (j % 4) (by simp [encG]; omega)]
    rfl
  have hlen : j < (cellsGm G).length := by rw [cellsGm_len]; exact hj'
  have hc := hcl j _ (List.getElem?_eq_getElem hlen)
  rw [Go.WideShapes.add_plain] at hc
  rcases h.2 with ⟨h0, -⟩ | ⟨g', cap, cur, hv, hg0, hg1, hcap, hmax, hcs, htk⟩
  · cases h0
  · injection hv with hv1 hv2 hv3
    injection hv1 with hv1
    injection hv1 with hv1
    subst hv1
    refine ⟨?_, ?_⟩
    · rw [hc, e, List.getElem?_eq_getElem hlen]; rfl
    · simp [World.frozen?, hg1]
theorem grown_sortGm [Inhabited Gm] {w : World} {g n : Nat} {d : Array Gm} {os : Array Obj} : w.grownBy (sortWorldK encG 4 w g 0 n d os) (some g) := by
  refine ⟨rfl, rfl, rfl, size_sortWorldK_c encG 4 w g 0 n d os, fun k hk hne => ?_⟩
  unfold sortWorldK Sort.grow Sort.putRowK Sort.putRow Sort.mapBlock Sort.ahead
  show ((w.heap.modify g _) ++ os)[k]? = _
  rw [Array.getElem?_append_left (by simp; omega), Array.getElem?_modify, if_neg (fun e => hne (by rw [e]))]

theorem gSort_own (a : Option Addr) (c : Nat) (G : List Gm) (B : Nat) (w : World) (h : GInv w B (.slice a G.length c) G) (hB : B ≤ w.heap.size) (hG : G.length ≤ 1000000) (n : Nat) (hn : n = G.length) :
    Calls Tryz.prog 24 #[.slice a n c, .func (.func 25) #[] #[]] w fun e w' => e = .returned (.tuple #[]) ∧ (∃ G' : List Gm, G'.Perm G ∧ (G'.Pairwise fun x y => ¬ y.less x) ∧ GroupsAt w' a G') ∧ Below B w w' := by
  subst hn
  rcases h.own.2 with ⟨hv, h0⟩ | ⟨g, cap, cur, hv, hg0, hg1, -⟩
  · simp only [Value.slice.injEq] at hv
    obtain ⟨rfl, -, rfl⟩ := hv
    obtain rfl := List.eq_nil_of_length_eq_zero h0
    refine (AnyF.slices_SortFunc_none Tryz.lSortG none 0 _ w).mono ?_
    rintro e w' ⟨he, rfl⟩
    exact ⟨he, ⟨[], List.Perm.refl _, List.Pairwise.nil, fun h => absurd h (by simp)⟩, Below.refl _ _⟩
  · simp only [Value.slice.injEq] at hv
    obtain ⟨rfl, -, rfl⟩ := hv
    haveI : Inhabited Gm := ⟨⟨0, [], none, 0, [], none, 0⟩⟩
    have hgl := ltA hg1
    have hH := ownGm_holds h.own
    have eg : ∀ args w, (callFunc 25 args).run Tryz.prog w = .ok (.enter 25 args) w := enters_of Tryz.func25 (by kernel_rfl) rfl
    have hcon := AnyQ.slices_SortFunc Tryz.lSortG 4 Tryz.isAgg44 Tryz.sizeOf44 encG (fun _ => rfl) (fun x v hv => by simp [encG] at hv; rcases hv with rfl | rfl | rfl | rfl <;> rfl) gcmp swoGm 25 #[] g 0 c G.toArray w eg (fun _ _ _ _ x y => cmpGm_any x y _) hH hgl (by simp; omega)
    change Calls Tryz.prog 24 _ _ _ at hcon
    rw [List.size_toArray] at hcon
    refine hcon.mono ?_
    rintro e w' ⟨he, d', m, os, hp, hs, rfl⟩
    obtain ⟨hp0, -, hp2⟩ := hp
    have hp1 : d'.size = G.length := by simpa using hp0
    have hperm : d'.toList.Perm G := by
      have e1 : d'.extract 0 G.length = d' := by rw [← hp1]; exact Array.extract_size
      have e2 : G.toArray.extract 0 G.length = G.toArray := by simp
      rw [e1, e2] at hp2
      simpa using hp2
    have hgr := @grown_sortGm _ w g m d' os
    have hK := holdsK_sortWorldK_c encG 4 w g 0 G.toArray d' m os hH hgl (by rw [hp1]; simp)
    have keep : ∀ {e : TypeId} {s n : Nat} {v : Value} {xs : List Value}, e ≠ 44 → w.ownsRow B e s v n xs → (sortWorldK encG 4 w g 0 m d' os).ownsRow B e s v n xs := fun {e s n v xs} hne hr => past_row hr h.own hne hgr
    refine ⟨he, ⟨d'.toList, hperm, ?_, fun _ => ⟨g, rfl, Nat.lt_of_lt_of_le hgl hgr.size, fun i hi => ?_⟩⟩, ⟨hgr.os, hgr.tape, hgr.output, hgr.size, fun k hk => hgr.block k (by omega) (fun e => by have := Option.some.inj e; omega)⟩⟩
    · rw [List.pairwise_iff_getElem]
      intro i j hi hj hij
      simp only [Array.length_toList] at hi hj
      have := hs i j (Nat.zero_le _) hij (by omega)
      rw [getElem!_pos d' i hi, getElem!_pos d' j hj, ltGm_false] at this
      simpa using this
    · have hi' : i < d'.size := by simpa using hi
      have e0 := (hK.cell (i := i) (c := 0) hi' (by omega)).1
      have e1 := (hK.cell (i := i) (c := 1) hi' (by omega)).1
      have e2 := (hK.cell (i := i) (c := 2) hi' (by omega)).1
      have e3 := (hK.cell (i := i) (c := 3) hi' (by omega)).1
      rw [getElem!_pos d' i hi'] at e0 e1 e2 e3
      rw [Nat.zero_add] at e0 e1 e2 e3
      rw [Array.getElem_toList]
      have hm : d'[i] ∈ G := hperm.mem_iff.1 (by simp)
      refine ⟨e0, e1, e2, e3, OwnP.at (keep (by decide) (h.lab _ hm)), OwnA.at (keep (by decide) (h.als _ hm)) fun r hr => OwnP.at (keep (by decide) (h.alp _ hm r hr))⟩

end Go.Proofs.YtmanjegdgjeeiaaGreatDoor
namespace Go.Proofs.YtmanjegdgjeeiaaGreatDoor
open Go.RowKit Go.Maps

theorem gkeyOf {k : List UInt8} (hk : k.length ≤ maxLen) : keyOf Tryz.prog 9 (.string ⟨k.toArray⟩) = some (.string k) := by
  have := Go.WideMaps.keyOf_string_mk (P := Tryz.prog) Tryz.underlying9 (s := ⟨k.toArray⟩) (by show k.toArray.size ≤ _; simpa using hk)
  simpa using this
theorem glawS : Keyed Tryz.prog 9 := string_keyed Tryz.underlying9

/-- Block b is the map of the groups' places, by their keys. -/
def MpAt (w : World) (b : Nat) (ks : List (List UInt8)) : Prop := ∃ D : DataW Value, w.ownsMap Tryz.prog 9 (plainElem Tryz.prog 3) b ks.length D ∧ IsMap D ∧ (∀ k : List UInt8, has D (.string k) = true ↔ k ∈ ks) ∧ ∀ p (hp : p < ks.length), D.atKey (.string ks[p]) (.lit (.int .i64 0)) = .lit (.int .i64 (p : Int))
theorem MpAt.made (w : World) : MpAt (w.alloc (.map #[] 0)) w.heap.size [] := ⟨.map [], World.ownsMap_made w Tryz.prog 9 _, isMap_empty, (fun k => by simp [has]), fun p hp => absurd hp (Nat.not_lt_zero _)⟩
theorem MpAt.kept {w w' : World} {b : Nat} {ks : List (List UInt8)} {row : Option Nat} (h : MpAt w b ks) (hg : w.grownBy w' row) (hne : some b ≠ row) : MpAt w' b ks := by
  obtain ⟨D, h1, h2⟩ := h
  exact ⟨D, World.ownsMap.kept h1 hg hne, h2⟩
theorem MpAt.lt {w : World} {b : Nat} {ks : List (List UInt8)} (h : MpAt w b ks) : b < w.heap.size := by
  obtain ⟨D, h1, h2⟩ := h
  exact World.ownsMap.lt h1
theorem MpAt.map {w : World} {b : Nat} {ks : List (List UInt8)} (h : MpAt w b ks) : ∃ es clock, w.heap[b]? = some (.map es clock) := by
  obtain ⟨D, ⟨es, clock, hb, -⟩, -⟩ := h
  exact ⟨es, clock, hb⟩
theorem MpAt.put {w' : World} {b : Nat} {ks : List (List UInt8)} {D : DataW Value} {k : List UInt8} (h2 : IsMap D) (h3 : ∀ k : List UInt8, has D (.string k) = true ↔ k ∈ ks) (h4 : ∀ p (hp : p < ks.length), D.atKey (.string ks[p]) (.lit (.int .i64 0)) = .lit (.int .i64 (p : Int))) (hk : k ∉ ks)
    (h : w'.ownsMap Tryz.prog 9 (plainElem Tryz.prog 3) b (ks.length + 1) (D.put (.string k) (.lit (.int .i64 (ks.length : Int))))) : MpAt w' b (ks ++ [k]) := by
  refine ⟨_, by rw [List.length_append]; exact h, h2.put _ _, fun k' => ?_, fun p hp => ?_⟩
  · by_cases e : k' = k
    · subst e
      rw [has_put_same h2 (k := .string k') (show WideAt.IsKeyLit (.string k') from trivial)]
      simp
    · rw [has_put_other (fun e' => e (by injection e')), h3]
      simp [e]
  · rw [List.length_append] at hp
    simp only [List.length_cons, List.length_nil] at hp
    by_cases e : p < ks.length
    · rw [List.getElem_append_left e, atKey_put_other (fun e' => hk (by injection e' with e'; rw [← e']; exact List.getElem_mem _))]
      exact h4 p e
    · obtain rfl : p = ks.length := by omega
      rw [List.getElem_append_right (Nat.le_refl _)]
      simp only [Nat.sub_self, List.getElem_cons_zero]
      exact atKey_put_same h2 (k := .string k) (show WideAt.IsKeyLit (.string k) from trivial) _ _

/-- A block of one alert. -/
def ABk (w : World) (B : Nat) (a : Option Addr) (n c : Nat) (s e : Int) : Prop := w.heap[B]? = some (.cells #[.slice a n c, .int .i64 s, .int .i64 e] 42 (0, 0))
theorem ABk.below {w w' : World} {B N : Nat} {a : Option Addr} {n c : Nat} {s e : Int} (h : ABk w B a n c s e) (hb : Below N w w') (hN : B < N) : ABk w' B a n c s e := (hb.block B hN).trans h
theorem ABk.c0 {w : World} {B : Nat} {a : Option Addr} {n c : Nat} {s e : Int} (h : ABk w B a n c s e) : w.cell? ⟨B, 0, none⟩ = some (.slice a n c) := cellA h
theorem ABk.c1 {w : World} {B : Nat} {a : Option Addr} {n c : Nat} {s e : Int} (h : ABk w B a n c s e) : w.cell? ⟨B, 1, none⟩ = some (.int .i64 s) := cellA h
theorem ABk.c2 {w : World} {B : Nat} {a : Option Addr} {n c : Nat} {s e : Int} (h : ABk w B a n c s e) : w.cell? ⟨B, 2, none⟩ = some (.int .i64 e) := cellA h
theorem ABk.f {w : World} {B : Nat} {a : Option Addr} {n c : Nat} {s e : Int} (h : ABk w B a n c s e) (j : Nat) : w.frozen? ⟨B, j, none⟩ = false := by
  unfold ABk at h
  simp [World.frozen?, h]
theorem ABk.set0 {w : World} {B : Nat} {a a' : Option Addr} {n c n' c' : Nat} {s e : Int} (h : ABk w B a n c s e) : ABk (w.setCell ⟨B, 0, none⟩ (.slice a' n' c')) B a' n' c' s e := by
  unfold ABk at h ⊢
  simp [World.setCell, Array.getElem?_modify, h]
theorem ABk.set1 {w : World} {B : Nat} {a : Option Addr} {n c : Nat} {s e x : Int} (h : ABk w B a n c s e) : ABk (w.setCell ⟨B, 1, none⟩ (.int .i64 x)) B a n c x e := by
  unfold ABk at h ⊢
  simp [World.setCell, Array.getElem?_modify, h]
theorem ABk.set2 {w : World} {B : Nat} {a : Option Addr} {n c : Nat} {s e x : Int} (h : ABk w B a n c s e) : ABk (w.setCell ⟨B, 2, none⟩ (.int .i64 x)) B a n c s x := by
  unfold ABk at h ⊢
  simp [World.setCell, Array.getElem?_modify, h]
theorem ABk.other {w : World} {B : Nat} {a : Option Addr} {n c : Nat} {s e : Int} (h : ABk w B a n c s e) {p : Addr} (hp : B ≠ p.block) (v : Value) : ABk (w.setCell p v) B a n c s e := (Below.heap_setCell w p v B hp).trans h
theorem ABk.new (w : World) (a : Option Addr) (n c : Nat) (s e : Int) : ABk (w.alloc (.cells #[.slice a n c, .int .i64 s, .int .i64 e] 42)) w.heap.size a n c s e := newA w _

set_option maxHeartbeats 1000000 in
theorem gOwn_any (a : Option Addr) (c : Nat) (ps : List Pr) (s e : Int) (w : World) (h : PairsAt w a ps) (hn : ps.length ≤ 4398046511103) (n : Nat) (hnl : n = ps.length) :
    Calls Tryz.prog 23 #[.agg #[.slice a n c, .int .i64 s, .int .i64 e]] w fun r w' => ∃ a' c', r = .returned (.agg #[.slice a' n c', .int .i64 s, .int .i64 e]) ∧ OwnP w' w.heap.size (.slice a' n c') ps ∧ Below w.heap.size w w' := by
  have d1 := (Below.refl w.heap.size w).alloc (Nat.le_refl _) (.cells #[.slice a n c, .int .i64 s, .int .i64 e] 42)
  have d2 := d1.alloc (by simp) (.cells #[.slice none 0 0, .int .i64 0, .int .i64 0] 42)
  have k1 := ABk.new w a n c s e
  have k2 := k1.below ((Below.refl _ _).alloc (Nat.le_refl _) (.cells #[.slice none 0 0, .int .i64 0, .int .i64 0] 42)) (by simp)
  have j2 := ABk.new (w.alloc (.cells #[.slice a n c, .int .i64 s, .int .i64 e] 42)) none 0 0 0 0
  have HC := Lib.hid (Clone_any a c ps _ (h.below d2 (Nat.le_refl _)) hn)
  rw [← hnl] at HC
  have s2 : ((w.alloc (.cells #[.slice a n c, .int .i64 s, .int .i64 e] 42)).alloc (.cells #[.slice none 0 0, .int .i64 0, .int .i64 0] 42)).heap.size = w.heap.size + 1 + 1 := by simp
  have s1 : (w.alloc (.cells #[.slice a n c, .int .i64 s, .int .i64 e] 42)).heap.size = w.heap.size + 1 := by simp
  rw [s1] at j2
  have HH := Lib.hid (And.intro d2 (And.intro k2 (And.intro j2 (And.intro s2 hnl))))
  clear d1 d2 k1 k2 j2 s1 s2 h hn hnl
  go_enter Tryz.func23, Tryz.ntmps23
  go_wp2_with (go_at_call 60; refine HC.out.mono ?_; rintro e w' ⟨v, rfl, hv, hb⟩; refine Hid.out ?_)
  obtain ⟨d2, k2, j2, s2, hnl⟩ := HH.out
  rw [s2] at hv hb
  obtain ⟨a', c', rfl, -, -, hq⟩ := hv.form
  have k3 := k2.below hb (by omega)
  have j3 := j2.below hb (by omega)
  have c0 := k3.c0; have f0 := k3.f 0
  have k4 : ABk (w'.setCell ⟨w.heap.size, 0, none⟩ (.slice a' ps.length c')) w.heap.size a' ps.length c' s e := k3.set0
  have j4 : ABk (w'.setCell ⟨w.heap.size, 0, none⟩ (.slice a' ps.length c')) (w.heap.size + 1) none 0 0 0 0 := j3.other (by simp) _
  have d0 := k4.c0; have d1 := k4.c1; have d2' := k4.c2
  have e0 := j4.c0; have e1 := j4.c1; have e2 := j4.c2
  have g0 := j4.f 0; have g1 := j4.f 1; have g2 := j4.f 2
  have hB : Below w.heap.size w ((((w'.setCell ⟨w.heap.size, 0, none⟩ (.slice a' ps.length c')).setCell ⟨w.heap.size + 1, 0, none⟩ (.slice a' ps.length c')).setCell ⟨w.heap.size + 1, 1, none⟩ (.int .i64 s)).setCell ⟨w.heap.size + 1, 2, none⟩ (.int .i64 e)) :=
    ((((d2.trans (hb.mono (by omega))).setCell (p := ⟨w.heap.size, 0, none⟩) (Nat.le_refl _) _).setCell (p := ⟨w.heap.size + 1, 0, none⟩) (Nat.le_succ _) _).setCell (p := ⟨w.heap.size + 1, 1, none⟩) (Nat.le_succ _) _).setCell (p := ⟨w.heap.size + 1, 2, none⟩) (Nat.le_succ _) _
  have hO : OwnP ((((w'.setCell ⟨w.heap.size, 0, none⟩ (.slice a' ps.length c')).setCell ⟨w.heap.size + 1, 0, none⟩ (.slice a' ps.length c')).setCell ⟨w.heap.size + 1, 1, none⟩ (.int .i64 s)).setCell ⟨w.heap.size + 1, 2, none⟩ (.int .i64 e)) (w.heap.size + 1 + 1) (.slice a' ps.length c') ps :=
    ownsRow_setCell_below (ownsRow_setCell_below (ownsRow_setCell_below (ownsRow_setCell_below hv (by show w.heap.size < _; omega) _) (by show w.heap.size + 1 < _; omega) _) (by show w.heap.size + 1 < _; omega) _) (by show w.heap.size + 1 < _; omega) _
  have HB := Lib.hid hB
  have HO : Hid (OwnP _ w.heap.size (.slice a' ps.length c') ps) := Lib.hid (baseA hO (show w.heap.size ≤ w.heap.size + 1 + 1 by omega))
  have j5 := j4
  clear hB hO k3 j3 k4 j4 hb hv hq k2 j2 d2 s2 HC HH
  rw [← hnl] at *
  refine Lib.hid ?_
  have r0 := (((j5.set0 (a' := a') (n' := n) (c' := c')).set1 (x := s)).set2 (x := e)).c0
  have r1 := (((j5.set0 (a' := a') (n' := n) (c' := c')).set1 (x := s)).set2 (x := e)).c1
  have r2 := (((j5.set0 (a' := a') (n' := n) (c' := c')).set1 (x := s)).set2 (x := e)).c2
  clear j5
  go_wp2
  exact bodyPost_ret (v := .agg #[.slice a' n c', .int .i64 s, .int .i64 e]) (by simp [results, Tryz.results23, go_sem, r0, r1, r2]) rfl ⟨a', c', rfl, HO.out, HB.out⟩


end Go.Proofs.YtmanjegdgjeeiaaGreatDoor
