/-
  A route more that takes nothing changes nothing of where labels go. A copy of a configuration is as the configuration is: what Check tells, and where labels go. A route more that takes nothing.
-/
import Derived.Test.YthaimnmbcbhioaaDoorRSome0
import Derived.Test.YthaimnmbcbhioaaDoorRCopy
import Derived.Test.YthaimnmbcbhioaaDoorRAwake
namespace Go.Proofs.YthaimnmbcbhioaaDoor
open Go.RowKit

theorem runKids_congr {g h : Nat → List Nat} {co co' : Nat → Bool} : ∀ {ks : List Nat}, (∀ k ∈ ks, g k = h k) → (∀ k ∈ ks, co k = co' k) → runKids g co ks = runKids h co' ks
  | [], _, _ => rfl
  | k :: r, h1, h2 => by
    unfold runKids
    rw [h1 k (by simp), h2 k (by simp), runKids_congr (fun q hq => h1 q (List.mem_cons_of_mem _ hq)) (fun q hq => h2 q (List.mem_cons_of_mem _ hq))]
theorem runKids_last {g : Nat → List Nat} {co : Nat → Bool} {n : Nat} (hn : g n = []) : ∀ ks, runKids g co (ks ++ [n]) = runKids g co ks
  | [] => by simp [runKids, hn]
  | k :: r => by
    show runKids g co (k :: (r ++ [n])) = _
    rw [runKids, runKids_last hn r]
    rfl
theorem kids_more (l : List Rt) (r : Rt) (i : Nat) : kidsP (l ++ [r]) i = kidsP l i ++ (if r.par = (i : Int) then [l.length] else []) := by
  unfold kidsP
  have h0 : ∀ m, m ≤ l.length → kidsTo (l ++ [r]) i m = kidsTo l i m := fun m => by
    induction m with
    | zero => intro _; rfl
    | succ m ih =>
      intro hm
      have hml : m < (l ++ [r]).length := by rw [List.length_append]; simp; omega
      have e : (l ++ [r])[m] = l[m]'(by omega) := List.getElem_append_left (by omega)
      by_cases hp : (l[m]'(by omega)).par = (i : Int)
      · rw [kidsTo_succ_yes hml (by rw [e]; exact hp), kidsTo_succ_yes (by omega) hp, ih (by omega)]
      · rw [kidsTo_succ_no hml (by rw [e]; exact hp), kidsTo_succ_no (by omega) hp, ih (by omega)]
  have hl : (l ++ [r]).length = l.length + 1 := by simp
  have hlt : l.length < (l ++ [r]).length := by omega
  have e : (l ++ [r])[l.length] = r := by simp
  rw [hl]
  by_cases hp : r.par = (i : Int)
  · rw [kidsTo_succ_yes hlt (by rw [e]; exact hp), h0 _ (Nat.le_refl _), if_pos hp]
  · rw [kidsTo_succ_no hlt (by rw [e]; exact hp), h0 _ (Nat.le_refl _), if_neg hp, List.append_nil]
theorem walk_more {l : List Rt} {r : Rt} {tk tk' : Nat → Bool} (h1 : ∀ i, i < l.length → tk' i = tk i) (h2 : tk' l.length = false) : ∀ (f a : Nat), a < l.length → walkP tk' (coP (l ++ [r])) (kidsP (l ++ [r])) f a = walkP tk (coP l) (kidsP l) f a
  | 0, _, _ => rfl
  | f + 1, a, ha => by
    have hn : walkP tk' (coP (l ++ [r])) (kidsP (l ++ [r])) f l.length = [] := by
      cases f with
      | zero => rfl
      | succ f => unfold walkP; rw [h2]; rfl
    have hk : ∀ k ∈ kidsP l a, k < l.length := fun k hk => (kids_mem hk).1
    have e : runKids (walkP tk' (coP (l ++ [r])) (kidsP (l ++ [r])) f) (coP (l ++ [r])) (kidsP (l ++ [r]) a) = runKids (walkP tk (coP l) (kidsP l) f) (coP l) (kidsP l a) := by
      have e1 : runKids (walkP tk' (coP (l ++ [r])) (kidsP (l ++ [r])) f) (coP (l ++ [r])) (kidsP (l ++ [r]) a) = runKids (walkP tk' (coP (l ++ [r])) (kidsP (l ++ [r])) f) (coP (l ++ [r])) (kidsP l a) := by
        rw [kids_more]
        split
        · exact runKids_last hn _
        · rw [List.append_nil]
      rw [e1]
      exact runKids_congr (fun k hq => walk_more h1 h2 f k (hk k hq)) fun k hq => by
        unfold coP
        rw [List.getElem?_append_left (hk k hq)]
    unfold walkP
    rw [h1 a ha, e]
/-- How deep it may go says nothing where it is deep enough. -/
theorem walk_fuel {l : List Rt} (ht : TreeOk l) {tk co : Nat → Bool} : ∀ (f a : Nat), a < l.length → l.length < a + f → walkP tk co (kidsP l) (f + 1) a = walkP tk co (kidsP l) f a
  | 0, a, ha, h => by omega
  | f + 1, a, ha, h => by
    have e : runKids (walkP tk co (kidsP l) (f + 1)) co (kidsP l a) = runKids (walkP tk co (kidsP l) f) co (kidsP l a) := runKids_congr (fun k hk => by
      obtain ⟨hkl, hkp⟩ := kids_mem hk
      have := tree_par ht hkl hkp
      exact walk_fuel ht f k hkl (by omega)) fun _ _ => rfl
    rw [walkP, walkP, e]
/-- A route more that takes nothing. -/
theorem walkL_more {l : List Rt} (ht : TreeOk l) {r : Rt} {tk tk' : Nat → Bool} (h1 : ∀ i, i < l.length → tk' i = tk i) (h2 : tk' l.length = false) : walkL (l ++ [r]) tk' = walkL l tk := by
  obtain ⟨h0, -⟩ := ht.1
  unfold walkL
  rw [if_neg (by simp), if_neg (by omega), List.length_append]
  show walkP tk' (coP (l ++ [r])) (kidsP (l ++ [r])) (l.length + 1 + 1) 0 = _
  rw [walk_more h1 h2 _ 0 h0]
  exact walk_fuel ht (l.length + 1) 0 h0 (by omega)


theorem map_get {α β : Type} {f : α → β} {l l' : List α} (h : l'.map f = l.map f) {i : Nat} (hi : i < l.length) : ∃ hi' : i < l'.length, f l'[i] = f l[i] := by
  have hl : l'.length = l.length := by simpa using congrArg List.length h
  refine ⟨by omega, ?_⟩
  have := congrArg (·[i]?) h
  simpa [hi, hl] using this
theorem map_mem {α β : Type} {f : α → β} {l l' : List α} (h : l'.map f = l.map f) {x : α} (hx : x ∈ l') : ∃ y ∈ l, f x = f y := by
  have : f x ∈ l.map f := h ▸ List.mem_map_of_mem hx
  obtain ⟨y, hy, e⟩ := List.mem_map.1 this
  exact ⟨y, hy, e.symm⟩
theorem firstE_map {α : Type} {f : α → Int} {g : α → α} (h : ∀ x, f (g x) = f x) : ∀ l : List α, firstE f (l.map g) = firstE f l
  | [] => rfl
  | x :: l => by
    rw [List.map_cons, firstE, firstE, h, firstE_map h l]
theorem tree_nrm {l : List Rt} : TreeOk (l.map nrm) ↔ TreeOk l := by
  unfold TreeOk
  simp only [List.length_map, List.getElem_map]
  exact Iff.rfl
theorem treeB_nrm (l : List Rt) : treeB (l.map nrm) = treeB l := by
  rw [Bool.eq_iff_iff, treeB_iff, treeB_iff, tree_nrm]
theorem conf_nrm (l : List Rt) (ls : List Rl) (pt rs : Int) : confE (l.map nrm) (ls.map nrmL) pt rs = confE l ls pt rs := by
  unfold confE
  rw [List.length_map, List.length_map, treeB_nrm, firstE_map (f := routeE) (g := nrm) (fun _ => rfl), firstE_map (f := ruleE) (g := nrmL) (fun _ => rfl)]
theorem conf_same {l l' : List Rt} {ls ls' : List Rl} {pt rs : Int} (h1 : l'.map nrm = l.map nrm) (h2 : ls'.map nrmL = ls.map nrmL) : confE l' ls' pt rs = confE l ls pt rs := by
  rw [← conf_nrm l', ← conf_nrm l, h1, h2]
theorem conf_zero {l : List Rt} {ls : List Rl} {pt rs : Int} (h : confE l ls pt rs = 0) : (l.length ≤ 16 ∧ ls.length ≤ 8) ∧ TreeOk l ∧ firstE routeE l = 0 ∧ firstE ruleE ls = 0 ∧ SpanOk pt ∧ SpanOk rs := by
  unfold confE at h
  split at h
  · cases h
  · rename_i h1
    split at h
    · rename_i h2
      split at h
      · rename_i h3; exact absurd h h3
      · rename_i h3
        split at h
        · rename_i h4; exact absurd h h4
        · rename_i h4
          split at h
          · cases h
          · rename_i h5
            have h5' := Classical.not_not.1 h5
            exact ⟨by omega, (treeB_iff l).1 h2, Classical.not_not.1 h3, Classical.not_not.1 h4, h5'⟩
    · cases h
theorem conf_of {l : List Rt} {ls : List Rl} {pt rs : Int} (h : (l.length ≤ 16 ∧ ls.length ≤ 8) ∧ TreeOk l ∧ firstE routeE l = 0 ∧ firstE ruleE ls = 0 ∧ SpanOk pt ∧ SpanOk rs) : confE l ls pt rs = 0 := by
  obtain ⟨h1, h2, h3, h4, h5⟩ := h
  unfold confE
  rw [if_neg (by omega), if_pos ((treeB_iff l).2 h2), if_neg (by rw [h3]; decide), if_neg (by rw [h4]; decide), if_neg (Classical.not_not.2 h5)]
theorem conf_bare {l : List Rt} {ls : List Rl} {pt rs : Int} (h : confE l ls pt rs = 0) : confE l [] pt rs = 0 := by
  obtain ⟨h1, h2, h3, h4, h5⟩ := conf_zero h
  exact conf_of ⟨⟨h1.1, Nat.zero_le _⟩, h2, h3, rfl, h5⟩
/-- The route more. -/
def exR (p : Int) (a : Option Addr) (c : Nat) : Rt := ⟨p, a, c, [(⟨#[97]⟩, 0, ⟨#[49]⟩), (⟨#[97]⟩, 1, ⟨#[49]⟩)], false, none, 0, [], ⟨#[114]⟩, 0, 1, 1⟩
theorem err1 : mErr (⟨#[97]⟩, 1, ⟨#[49]⟩) = 0 := by
  unfold mErr
  rw [if_neg (Classical.not_not.2 nameA)]
  rfl
theorem exR_ok (p : Int) (a : Option Addr) (c : Nat) : routeE (exR p a c) = 0 := by
  have h : checkAllE [(⟨#[97]⟩, 0, ⟨#[49]⟩), (⟨#[97]⟩, 1, ⟨#[49]⟩)] = 0 := by
    unfold checkAllE allE allE allE
    rw [if_neg (by simp), if_neg (by rw [err0]; decide), if_neg (by rw [err1]; decide)]
  unfold routeE exR
  simp only
  rw [h, namesE_nil, if_neg (by decide), if_neg (by decide), if_neg (by decide), if_neg (Classical.not_not.2 ⟨Or.inl rfl, (by decide : SpanOk 1), (by decide : SpanOk 1)⟩)]
theorem firstE_snoc {α : Type} {f : α → Int} {x : α} : ∀ {l : List α}, firstE f l = 0 → f x = 0 → firstE f (l ++ [x]) = 0 := fun {l} h hx => firstE_none fun i hi => by
  by_cases hl : i < l.length
  · rw [List.getElem_append_left hl]
    exact firstE_zero h _ (List.getElem_mem hl)
  · have : i = l.length := by simp at hi; omega
    subst this
    simpa using hx
theorem conf_more {l : List Rt} {ls : List Rl} {pt rs p : Int} {a : Option Addr} {c : Nat} (h : confE l ls pt rs = 0) (hl : l.length ≤ 15) (h0 : 0 ≤ p) (h1 : p < (l.length : Int)) : confE (l ++ [exR p a c]) ls pt rs = 0 := by
  obtain ⟨g1, g2, g3, g4, g5⟩ := conf_zero h
  refine conf_of ⟨⟨by simp; omega, g1.2⟩, ⟨?_, fun i hi h1i => ?_⟩, firstE_snoc g3 (exR_ok p a c), g4, g5⟩
  · obtain ⟨hp, q1, q2⟩ := g2.1
    refine ⟨by simp, ?_⟩
    rw [List.getElem_append_left hp]
    exact ⟨q1, q2⟩
  · by_cases hil : i < l.length
    · rw [List.getElem_append_left hil]
      exact g2.2 i hil h1i
    · have : i = l.length := by simp at hi; omega
      subst this
      simp only [List.getElem_append_right (Nat.le_refl _), Nat.sub_self, List.getElem_cons_zero]
      exact ⟨h0, h1⟩
theorem ask_ex (ps : List Pr) (p : Int) (a : Option Addr) (c : Nat) : ¬ ∀ m ∈ (exR p a c).ms, mAsk ps m := fun h => by
  have h1 := h (⟨#[97]⟩, 0, ⟨#[49]⟩) (by simp [exR])
  have h2 := h (⟨#[97]⟩, 1, ⟨#[49]⟩) (by simp [exR])
  obtain ⟨-, h1⟩ := h1
  obtain ⟨-, h2⟩ := h2
  rcases h1 with ⟨-, h1⟩ | ⟨h1, -⟩ | ⟨h1, -⟩ | ⟨h1, -⟩
  · rcases h2 with ⟨h2, -⟩ | ⟨-, h2⟩ | ⟨h2, -⟩ | ⟨h2, -⟩
    · cases h2
    · exact h2 h1
    · cases h2
    · cases h2
  · cases h1
  · cases h1
  · cases h1
theorem walk_same {l l' : List Rt} (h : l'.map nrm = l.map nrm) (tk : Nat → Bool) : walkL l' tk = walkL l tk := by
  have hl : l'.length = l.length := by simpa using congrArg List.length h
  have hg : ∀ k : Nat, (l'[k]?).map nrm = (l[k]?).map nrm := fun k => by
    have := congrArg (·[k]?) h
    simpa using this
  have hc : coP l' = coP l := by
    funext k
    unfold coP
    have := congrArg (Option.map Rt.co) (hg k)
    simp only [Option.map_map] at this
    have e : (Rt.co ∘ nrm) = Rt.co := rfl
    rw [e] at this
    rw [this]
  have hk : kidsP l' = kidsP l := by
    funext i
    unfold kidsP kidsTo
    rw [hl]
    congr 1
    funext k
    have := congrArg (Option.map Rt.par) (hg k)
    simp only [Option.map_map] at this
    have e : (Rt.par ∘ nrm) = Rt.par := rfl
    rw [e] at this
    rw [this]
  unfold walkL
  rw [hl, hc, hk]
theorem walk_plus {l l2 : List Rt} {ps : List Pr} {tk tk2 : Nat → Bool} {p : Int} (ht : TreeOk l) (h : l2.map nrm = (l ++ [exR p none 0]).map nrm) (h1 : TkOk l ps tk) (h2 : TkOk l2 ps tk2) : walkL l2 tk2 = walkL l tk := by
  rw [walk_same h]
  refine walkL_more ht (fun i hi => ?_) ?_
  · have hi2 : i < (l ++ [exR p none 0]).length := by simp; omega
    obtain ⟨hj, e⟩ := map_get h hi2
    rw [List.getElem_append_left hi] at e
    have e2 : l2[i].ms = l[i].ms := by have := congrArg Rt.ms e; exact this
    have q1 := h1 i hi
    have q2 := h2 i hj
    rw [e2] at q2
    exact Bool.eq_iff_iff.2 (q2.trans q1.symm)
  · have hi2 : l.length < (l ++ [exR p none 0]).length := by simp
    obtain ⟨hj, e⟩ := map_get h hi2
    have e2 : l2[l.length].ms = (exR p none 0).ms := by
      have := congrArg Rt.ms e
      simpa [nrm] using this
    refine Bool.eq_false_iff.2 fun k => ask_ex ps p none 0 fun m hm => (h2 l.length hj).1 k m (by rw [e2]; exact hm)
/-- Where the copies lie. -/
theorem CopyR.form {w : World} {B : Nat} {v : Value} {l l' : List Rt} (h : CopyR w B v l l') : ∃ a c, v = .slice a l'.length c ∧ RtsAt w a l' := by
  have hlst : ∀ i (hi : i < l'.length), MtsAt w l'[i].ma l'[i].ms ∧ StrsAt w l'[i].ba l'[i].bys := fun i hi => ⟨(h.2.2 _ (List.getElem_mem hi)).1.1, (h.2.2 _ (List.getElem_mem hi)).2.1⟩
  have ho := h.2.1
  rcases ho.2 with ⟨rfl, h0⟩ | ⟨g, cap, cur, rfl, hg0, hg1, hcap, hmax, hcs, htk⟩
  · exact ⟨none, 0, by rw [h0], fun hn => by omega⟩
  · refine ⟨_, _, rfl, fun _ => ⟨g, 0, rfl, lt_of_block hg1, fun i hi => ⟨fun j v hv => ?_, hlst i hi⟩⟩⟩
    have hj : j < 8 := by have := (List.getElem?_eq_some_iff.1 hv).1; rwa [encR_len] at this
    have := World.ownsRow.cellAt ho (i * 8 + j) (by omega)
    rw [flat_get encR_len l' i hi j hj, hv] at this
    rw [Nat.zero_add]
    exact this
theorem CopyL.form {w : World} {B : Nat} {v : Value} {l l' : List Rl} (h : CopyL w B v l l') : ∃ a c, v = .slice a l'.length c ∧ RlsAt w a l' := by
  have hlst : ∀ i (hi : i < l'.length), MtsAt w l'[i].sa l'[i].src ∧ MtsAt w l'[i].ta l'[i].tgt ∧ StrsAt w l'[i].ea l'[i].eqs := fun i hi => ⟨(h.2.2 _ (List.getElem_mem hi)).1.1, (h.2.2 _ (List.getElem_mem hi)).2.1.1, (h.2.2 _ (List.getElem_mem hi)).2.2.1⟩
  have ho := h.2.1
  rcases ho.2 with ⟨rfl, h0⟩ | ⟨g, cap, cur, rfl, hg0, hg1, hcap, hmax, hcs, htk⟩
  · exact ⟨none, 0, by rw [h0], fun hn => by omega⟩
  · refine ⟨_, _, rfl, fun _ => ⟨g, 0, rfl, lt_of_block hg1, fun i hi => ⟨fun j v hv => ?_, hlst i hi⟩⟩⟩
    have hj : j < 3 := by have := (List.getElem?_eq_some_iff.1 hv).1; rwa [encL_len] at this
    have := World.ownsRow.cellAt ho (i * 3 + j) (by omega)
    rw [flat_get encL_len l' i hi j hj, hv] at this
    rw [Nat.zero_add]
    exact this
theorem CopyR.ok {w : World} {B : Nat} {v : Value} {l l' : List Rt} (h : CopyR w B v l l') (ok : ∀ r ∈ l, RtOk r) : ∀ r ∈ l', RtOk r := fun r hr => by
  obtain ⟨y, hy, e⟩ := map_mem h.1 hr
  obtain ⟨o1, ⟨o2, -⟩, o3⟩ := ok y hy
  have e1 : r.ms = y.ms := by have := congrArg Rt.ms e; exact this
  have e2 : r.bys = y.bys := by have := congrArg Rt.bys e; exact this
  have e3 : r.rc = y.rc := by have := congrArg Rt.rc e; exact this
  exact ⟨by rw [e1]; exact o1, ⟨by rw [e2]; exact o2, (h.2.2 r hr).2.2.1⟩, by rw [e3]; exact o3⟩
theorem CopyL.ok {w : World} {B : Nat} {v : Value} {l l' : List Rl} (h : CopyL w B v l l') (ok : ∀ r ∈ l, RlOk r) : ∀ r ∈ l', RlOk r := fun r hr => by
  obtain ⟨y, hy, e⟩ := map_mem h.1 hr
  obtain ⟨o1, o2, o3, -⟩ := ok y hy
  have e1 : r.src = y.src := by have := congrArg Rl.src e; exact this
  have e2 : r.tgt = y.tgt := by have := congrArg Rl.tgt e; exact this
  have e3 : r.eqs = y.eqs := by have := congrArg Rl.eqs e; exact this
  exact ⟨by rw [e1]; exact o1, by rw [e2]; exact o2, by rw [e3]; exact o3, (h.2.2 r hr).2.2.2.1⟩
/-- A store into a block that none of it lies in. -/
theorem CopyR.kept {w w' : World} {B X : Nat} {v : Value} {l l' : List Rt} (h : CopyR w B v l l') (hg : w.grownBy w' (some X)) (h1 : v.ownBlock ≠ some X) (h2 : ∀ r ∈ l', (∀ ad, r.ma = some ad → ad.block ≠ X) ∧ ∀ ad, r.ba = some ad → ad.block ≠ X) : CopyR w' B v l l' := by
  have hB : ∀ a, Apart w B v.ownBlock a → Apart w' B v.ownBlock a := fun a ha ad e => ⟨(ha ad e).1, Nat.lt_of_lt_of_le (ha ad e).2.1 hg.size, (ha ad e).2.2⟩
  refine ⟨h.1, h.2.1.kept hg (.inr h1), fun r hr => ?_⟩
  obtain ⟨⟨k1, k2, k3⟩, k4, k5, k6, k7⟩ := h.2.2 r hr
  obtain ⟨g1, g2⟩ := h2 r hr
  exact ⟨⟨k1.grown hg (B := B) (fun ad e => ⟨(k3 ad e).1, (k3 ad e).2.1, fun x => g1 ad e (by injection x with x; exact x.symm)⟩), k2, hB _ k3⟩, k4.grown hg (B := B) (fun ad e => ⟨(k7 ad e).1, (k7 ad e).2.1, fun x => g2 ad e (by injection x with x; exact x.symm)⟩), k5, k6, hB _ k7⟩

end Go.Proofs.YthaimnmbcbhioaaDoor
