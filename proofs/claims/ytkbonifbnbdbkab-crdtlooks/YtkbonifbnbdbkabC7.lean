/-
  What a map of entries has, plainly: of each key the latest that came, in whatever order.
-/
import Derived.Test.YtkbonifbnbdbkabC6
namespace Go.Proofs.Ytkbonifbnbdbkab
open Go.RowKit Go.Maps

theorem key_k {x y : Ent} (h : x.key = y.key) : x.k = y.k := bytes_ext h
/-- Not above what is not above is not above. -/
theorem nabove_trans {x y z : Ent} (hxy : x.key = y.key) (hyz : y.key = z.key) (h1 : aboveE x y = false) (h2 : aboveE y z = false) : aboveE x z = false := by
  cases h : aboveE x z with
  | false => rfl
  | true =>
    cases h3 : aboveE y x with
    | true => rw [above_trans h3 h] at h2; cases h2
    | false =>
      have := above_tri (key_k hxy) h1 h3
      subst this
      rw [h] at h2
      cases h2
theorem rising_ext : ∀ {S T : List Ent}, RisingC S → RisingC T → (∀ x, x ∈ S ↔ x ∈ T) → S = T
  | [], [], _, _, _ => rfl
  | [], y :: T, _, _, h => by simpa using (h y).2 (List.mem_cons_self ..)
  | x :: S, [], _, _, h => by simpa using (h x).1 (List.mem_cons_self ..)
  | x :: S, y :: T, hS, hT, h => by
    obtain ⟨h1, h2⟩ := List.pairwise_cons.1 hS
    obtain ⟨h3, h4⟩ := List.pairwise_cons.1 hT
    have e : x = y := by
      rcases List.mem_cons.1 ((h x).1 (List.mem_cons_self ..)) with e | hx
      · exact e
      · rcases List.mem_cons.1 ((h y).2 (List.mem_cons_self ..)) with e | hy
        · exact e.symm
        · exact absurd (h1 y hy) (key_asymmC (h3 x hx))
    subst e
    have nx : x ∉ S := fun hx => key_irreflC _ (h1 x hx)
    have nt : x ∉ T := fun hx => key_irreflC _ (h3 x hx)
    rw [rising_ext h2 h4 fun z => ⟨fun hz => by
      rcases List.mem_cons.1 ((h z).1 (List.mem_cons_of_mem _ hz)) with e | hz'
      · subst e; exact absurd hz nx
      · exact hz', fun hz => by
      rcases List.mem_cons.1 ((h z).2 (List.mem_cons_of_mem _ hz)) with e | hz'
      · subst e; exact absurd hz nt
      · exact hz'⟩]

/-- S has of each key the latest of those that P tells. -/
def Best (P : Ent → Prop) (S : List Ent) : Prop := RisingC S ∧ (∀ x ∈ S, P x) ∧ ∀ y, P y → ∃ x ∈ S, x.key = y.key ∧ aboveE y x = false
theorem best_nil : Best (fun _ => False) [] := ⟨List.Pairwise.nil, (fun x hx => by cases hx), fun y hy => False.elim hy⟩
theorem best_unique {P Q : Ent → Prop} {S T : List Ent} (hS : Best P S) (hT : Best Q T) (h1 : ∀ x ∈ S, Q x) (h2 : ∀ y ∈ T, P y) : S = T := by
  refine rising_ext hS.1 hT.1 fun x => ⟨fun hx => ?_, fun hy => ?_⟩
  · obtain ⟨y, hy, e1, a1⟩ := hT.2.2 x (h1 x hx)
    obtain ⟨x', hx', e2, a2⟩ := hS.2.2 y (h2 y hy)
    obtain rfl := key_injC hS.1 hx' hx (e2.trans e1)
    rw [above_tri (key_k e1.symm) a1 a2]
    exact hy
  · obtain ⟨y, hy', e1, a1⟩ := hS.2.2 x (h2 x hy)
    obtain ⟨x', hx', e2, a2⟩ := hT.2.2 y (h1 y hy')
    obtain rfl := key_injC hT.1 hx' hy (e2.trans e1)
    rw [above_tri (key_k e1.symm) a1 a2]
    exact hy'
theorem best_congr {P Q : Ent → Prop} {S : List Ent} (h : ∀ x, P x ↔ Q x) (hS : Best P S) : Best Q S := ⟨hS.1, fun x hx => (h x).1 (hS.2.1 x hx), fun y hy => hS.2.2 y ((h y).2 hy)⟩
theorem best_same {P Q : Ent → Prop} {S T : List Ent} (hS : Best P S) (hT : Best Q T) (h : ∀ x, P x ↔ Q x) : S = T := best_unique hS hT (fun x hx => (h x).1 (hS.2.1 x hx)) (fun y hy => (h y).2 (hT.2.1 y hy))

theorem keys_le : ∀ (K L : List (List UInt8)), K.Nodup → (∀ k ∈ K, k ∈ L) → K.length ≤ L.length
  | [], _, _, _ => Nat.zero_le _
  | k :: K, L, hn, hs => by
    obtain ⟨h1, h2⟩ := List.nodup_cons.1 hn
    have hk := hs k (List.mem_cons_self ..)
    have := keys_le K (L.erase k) h2 fun x hx => (List.mem_erase_of_ne (show x ≠ k from fun e => h1 (by rw [← e]; exact hx))).2 (hs x (List.mem_cons_of_mem _ hx))
    rw [List.length_erase_of_mem hk] at this
    have hp : 0 < L.length := List.length_pos_of_mem hk
    rw [List.length_cons]
    omega
theorem rising_nodup {S : List Ent} (h : RisingC S) : (S.map Ent.key).Nodup := by
  unfold List.Nodup
  rw [List.pairwise_map]
  exact h.imp fun {x y} hxy e => by
    rw [e] at hxy
    exact key_irreflC _ hxy
theorem room_of {S U : List Ent} {x : Ent} (hR : RisingC S) (hS : ∀ y ∈ S, y ∈ U) (hx : x ∈ U) (hno : ∀ y ∈ S, y.key ≠ x.key) (hU : U.length ≤ 256) : ¬ 256 ≤ S.length := by
  have := keys_le (x.key :: S.map Ent.key) (U.map Ent.key) (List.nodup_cons.2 ⟨fun h => by
    obtain ⟨y, hy, e⟩ := List.mem_map.1 h
    exact hno y hy e, rising_nodup hR⟩) (fun k hk => by
    rcases List.mem_cons.1 hk with rfl | hk
    · exact List.mem_map_of_mem hx
    · obtain ⟨y, hy, rfl⟩ := List.mem_map.1 hk
      exact List.mem_map_of_mem (hS y hy))
  simp only [List.length_cons, List.length_map] at this
  omega

theorem insC_rising {x : Ent} : ∀ {S : List Ent}, RisingC S → (∀ y ∈ S, y.key ≠ x.key) → RisingC (insC x S)
  | [], _, _ => by simp [insC, RisingC]
  | y :: l, h, hno => by
    obtain ⟨h1, h2⟩ := List.pairwise_cons.1 h
    rw [insC]
    split
    · rename_i hlt
      refine List.pairwise_cons.2 ⟨fun z hz => ?_, h⟩
      rcases List.mem_cons.1 hz with rfl | hz
      · exact hlt
      · exact key_transC hlt (h1 z hz)
    · rename_i hnl
      have hyx : y.key < x.key := (key_totalC (hno y (List.mem_cons_self ..))).resolve_right hnl
      refine List.pairwise_cons.2 ⟨fun z hz => ?_, insC_rising h2 fun z hz => hno z (List.mem_cons_of_mem _ hz)⟩
      rcases mem_insC.1 hz with rfl | hz
      · exact hyx
      · exact h1 z hz
theorem putC_rising {x : Ent} {S : List Ent} (h : RisingC S) : RisingC (putC x S) := insC_rising (h.filter _) fun y hy => by
  have := (List.mem_filter.1 hy).2
  simpa using this

/-- One entry more. -/
theorem best_put {P : Ent → Prop} {S U : List Ent} {x : Ent} (h : Best P S) (hP : ∀ y, P y → y ∈ U) (hx : x ∈ U) (hU : U.length ≤ 256) : Best (fun y => P y ∨ (y = x ∧ checkEn y = 0)) (cputS S x) := by
  by_cases hE : checkEn x = 0
  · cases hg : gotC S x.key with
    | none =>
      have hno := gotC_none hg
      have hn := room_of h.1 (fun y hy => hP y (h.2.1 y hy)) hx hno hU
      have e1 : cputE S x = 0 := by unfold cputE; rw [if_neg (by simp [hE]), if_neg (fun h => hn h.2)]
      have e2 : cputB S x = true := by unfold cputB; rw [e1, hg]; rfl
      have e3 : cputS S x = putC x S := by unfold cputS; rw [e2]; rfl
      rw [e3]
      refine ⟨putC_rising h.1, fun y hy => ?_, fun y hy => ?_⟩
      · rcases mem_putC.1 hy with rfl | hy
        · exact .inr ⟨rfl, hE⟩
        · exact .inl (h.2.1 y hy.1)
      · rcases hy with hy | ⟨rfl, -⟩
        · obtain ⟨z, hz, ez, az⟩ := h.2.2 y hy
          exact ⟨z, mem_putC.2 (.inr ⟨hz, hno z hz⟩), ez, az⟩
        · exact ⟨y, mem_putC.2 (.inl rfl), rfl, above_irrefl y⟩
    | some z =>
      obtain ⟨hz, hk⟩ := gotC_mem hg
      have e1 : cputE S x = 0 := by unfold cputE; rw [if_neg (by simp [hE]), if_neg (fun h => by have := h.1; rw [hg] at this; cases this)]
      have e2 : cputB S x = aboveE x z := by unfold cputB; rw [e1, hg]; simp
      cases ha : aboveE x z with
      | false =>
        have e3 : cputS S x = S := by unfold cputS; rw [e2, ha]; rfl
        rw [e3]
        refine ⟨h.1, fun y hy => .inl (h.2.1 y hy), fun y hy => ?_⟩
        rcases hy with hy | ⟨rfl, -⟩
        · exact h.2.2 y hy
        · exact ⟨z, hz, hk, ha⟩
      | true =>
        have e3 : cputS S x = putC x S := by unfold cputS; rw [e2, ha]; rfl
        rw [e3]
        refine ⟨putC_rising h.1, fun y hy => ?_, fun y hy => ?_⟩
        · rcases mem_putC.1 hy with rfl | hy
          · exact .inr ⟨rfl, hE⟩
          · exact .inl (h.2.1 y hy.1)
        · rcases hy with hy | ⟨rfl, -⟩
          · obtain ⟨u, hu, eu, au⟩ := h.2.2 y hy
            by_cases e : u.key = x.key
            · obtain rfl := key_injC h.1 hu hz (e.trans hk.symm)
              exact ⟨x, mem_putC.2 (.inl rfl), e.symm.trans eu, nabove_trans eu.symm e au (above_asymm ha)⟩
            · exact ⟨u, mem_putC.2 (.inr ⟨hu, e⟩), eu, au⟩
          · exact ⟨y, mem_putC.2 (.inl rfl), rfl, above_irrefl y⟩
  · have e1 : cputE S x = checkEn x := by unfold cputE; rw [if_pos hE]
    have e2 : cputB S x = false := by unfold cputB; rw [e1]; simp [hE]
    have e3 : cputS S x = S := by unfold cputS; rw [e2]; rfl
    rw [e3]
    refine ⟨h.1, fun y hy => .inl (h.2.1 y hy), fun y hy => ?_⟩
    rcases hy with hy | ⟨rfl, hc⟩
    · exact h.2.2 y hy
    · exact absurd hc hE
/-- Entries, one behind the other. -/
theorem best_merge {U : List Ent} (hU : U.length ≤ 256) : ∀ (l : List Ent) (P : Ent → Prop) (S : List Ent), Best P S → (∀ y, P y → y ∈ U) → (∀ y ∈ l, y ∈ U) → Best (fun y => P y ∨ (y ∈ l ∧ checkEn y = 0)) (mergeS S l)
  | [], P, S, h, _, _ => best_congr (fun x => by simp) h
  | x :: l, P, S, h, hP, hl => by
    have h1 := best_put h hP (hl x (List.mem_cons_self ..)) hU
    have h2 := best_merge hU l _ _ h1 (fun y hy => hy.elim (hP y) fun ⟨e, _⟩ => e ▸ hl x (List.mem_cons_self ..)) (fun y hy => hl y (List.mem_cons_of_mem _ hy))
    refine best_congr (fun y => ?_) h2
    rw [List.mem_cons]
    constructor
    · rintro ((h | ⟨rfl, h⟩) | ⟨h, k⟩)
      · exact .inl h
      · exact .inr ⟨.inl rfl, h⟩
      · exact .inr ⟨.inr h, k⟩
    · rintro (h | ⟨rfl | h, k⟩)
      · exact .inl (.inl h)
      · exact .inl (.inr ⟨rfl, k⟩)
      · exact .inr ⟨h, k⟩
theorem best_of {l U : List Ent} (hU : U.length ≤ 256) (hl : ∀ y ∈ l, y ∈ U) : Best (fun y => y ∈ l ∧ checkEn y = 0) (mergeS [] l) :=
  best_congr (fun x => by simp) (best_merge hU l _ [] best_nil (fun y hy => False.elim hy) hl)
/-- What is no news changes nothing. -/
theorem stays_of {P : Ent → Prop} {S : List Ent} (h : Best P S) {y : Ent} (hy : P y) : cputB S y = false := by
  obtain ⟨x, hx, e, a⟩ := h.2.2 y hy
  unfold cputB
  rw [← e, gotC_some h.1 hx]
  simp [a]
theorem bad_stays {S : List Ent} {y : Ent} (hy : checkEn y ≠ 0) : cputB S y = false := by
  have e1 : cputE S y = checkEn y := by unfold cputE; rw [if_pos hy]
  unfold cputB
  rw [e1]
  simp [hy]
theorem mergeN_zero : ∀ (l : List Ent) (S : List Ent), (∀ y ∈ l, cputB S y = false) → mergeN S l = 0 ∧ mergeS S l = S
  | [], S, _ => ⟨rfl, rfl⟩
  | x :: l, S, h => by
    have e := h x (List.mem_cons_self ..)
    have e2 : cputS S x = S := by unfold cputS; rw [e]; rfl
    have ih := mergeN_zero l S fun y hy => h y (List.mem_cons_of_mem _ hy)
    constructor
    · rw [mergeN, e, e2, ih.1]
      rfl
    · show mergeS (cputS S x) l = S
      rw [e2]
      exact ih.2

end Go.Proofs.Ytkbonifbnbdbkab
