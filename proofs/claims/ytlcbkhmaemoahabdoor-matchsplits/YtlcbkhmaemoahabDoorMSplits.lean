/-
  The walk of MatchSplits.
-/
import Derived.Test.YtlcbkhmaemoahabDoorM4
import Derived.Test.YtlcbkhmaemoahabDoorM5
import Derived.Maps.AppendAt
import Derived.Laws.AppendOwnNone
import Derived.Laws.OwnMore
namespace Go.Proofs.YtlcbkhmaemoahabDoor
open Go.RowKit

/-- The cells of matchers. -/
def cellsM (ms : List Mt) : List Value := ms.flatMap encM
theorem cellsM_cons (m : Mt) (r : List Mt) : cellsM (m :: r) = encM m ++ cellsM r := rfl
theorem cellsM_len : ∀ ms : List Mt, (cellsM ms).length = ms.length * 3
  | [] => rfl
  | m :: r => by rw [cellsM_cons, List.length_append, cellsM_len r, List.length_cons]; simp [encM]; omega
theorem cellsM_append (a b : List Mt) : cellsM (a ++ b) = cellsM a ++ cellsM b := List.flatMap_append
theorem cellsM_get : ∀ (ms : List Mt) (i : Nat) (hi : i < ms.length) (j : Nat), j < 3 → (cellsM ms)[i * 3 + j]? = (encM ms[i])[j]?
  | m :: r, 0, _, j, hj => by
    rw [cellsM_cons, List.getElem?_append_left (by simp [encM]; omega)]
    simp
  | m :: r, i + 1, hi, j, hj => by
    have := cellsM_get r i (by simpa using hi) j hj
    rw [cellsM_cons, List.getElem?_append_right (by simp [encM]; omega), show (i + 1) * 3 + j - (encM m).length = i * 3 + j by simp [encM]; omega, this]
    rfl
theorem cellsM_one {ms : List Mt} {v : Value} (h : v ∈ cellsM ms) : v.oneCell' = true := by
  obtain ⟨m, -, h2⟩ := List.mem_flatMap.1 h
  simp only [encM, List.mem_cons, List.not_mem_nil, or_false] at h2
  rcases h2 with rfl | rfl | rfl <;> rfl
theorem infoMt : (Tryd.prog.info? 29).map (fun i => (i.zero, i.size, i.bytes)) = some (some (.agg #[.string ⟨#[]⟩, .int .u8 0, .string ⟨#[]⟩]), 3, 40) := by kernel_rfl
def OwnM (w : World) (B : Nat) (v : Value) (ms : List Mt) : Prop := w.ownsRow B 29 3 v ms.length (cellsM ms)
theorem OwnM.mts {w : World} {B : Nat} {v : Value} {ms : List Mt} (h : OwnM w B v ms) : ∃ a c, v = .slice a ms.length c ∧ MtsAt w a ms := by
  rcases h.2 with ⟨rfl, h0⟩ | ⟨g, cap, cur, rfl, hg0, hg1, hcap, hmax, hcs, htk⟩
  · exact ⟨none, 0, by rw [h0], fun hn => by omega⟩
  · refine ⟨_, _, rfl, fun _ => ⟨g, 0, rfl, (Array.getElem?_eq_some_iff.1 hg1).1, fun i hi => ?_⟩⟩
    have hc : ∀ j, j < 3 → w.cell? ⟨g, i * 3 + j, none⟩ = (encM ms[i])[j]? := fun j hj => by
      rw [World.ownsRow.cellAt h _ (by omega), cellsM_get ms i hi j hj]
    rw [Nat.zero_add]
    exact ⟨hc 0 (by omega), hc 1 (by omega), hc 2 (by omega)⟩
theorem wpList_append_mts {ops : Array Oper} {rest : List Oper} {o : Oper} {a : Act} {w : World} {Q : Exit → Act → World → Prop} (hgd : o.guard = none) (s x : Operand)
    (ho : o.op = .call { callee := .builtin .append, args := #[s, x], argTypes := #[22, 22] }) (B : Nat) (v : Value) (xs : List Mt) (hs : a.eval s = v) (hown : OwnM w B v xs)
    (q : Option Addr) (c : Nat) (ys : List Mt) (hx : a.eval x = .slice q ys.length c) (hq : MtsAt w q ys) (hnil : q = none → ys.length = 0 ∧ c = 0) (hb : xs.length + ys.length ≤ 1000) (hB : B ≤ w.heap.size)
    (h : ∀ v' w', OwnM w' B v' (xs ++ ys) → w.grownBy w' v.ownBlock → wpList Tryd.prog ops Q rest (a.put o.dst v') w') :
    wpList Tryd.prog ops Q (o :: rest) a w := by
  obtain ⟨i0, hi, hi0, hi1, hi2⟩ := info_parts infoMt
  cases q with
  | none =>
    obtain ⟨h0, rfl⟩ := hnil rfl
    have hys : ys = [] := List.eq_nil_of_length_eq_zero h0
    subst hys
    refine wpList_append_own_none hgd s x 22 ho B 29 i0 3 Tryd.underlying22 hi v _ _ hs hown hx (h v w ?_ ?_)
    · rw [List.append_nil]; exact hown
    · exact ⟨rfl, rfl, rfl, Nat.le_refl _, fun _ _ _ => rfl⟩
  | some ad =>
    refine wpList_append_own_at w hgd s x 22 ho B 29 i0 _ 3 40 Tryd.underlying22 hi hi0 hi1 hi2 rfl (by decide) v _ _ hs hown ad ys.length c (cellsM ys) hx (cellsM_len ys) (fun j u hj => ?_) (fun u hu => cellsM_one hu) (by unfold maxLen; omega) (by omega) hB (fun v' w' h1 h2 _ _ => h v' w' ?_ h2)
    · have hjl : j < ys.length * 3 := by have := (List.getElem?_eq_some_iff.1 hj).1; rwa [cellsM_len] at this
      obtain ⟨b, o, e, -, hc⟩ := hq (by omega)
      obtain rfl := Option.some.inj e
      obtain ⟨c0, c1, c2⟩ := hc (j / 3) (by omega)
      have hg := cellsM_get ys (j / 3) (by omega) (j % 3) (by omega)
      rw [show j / 3 * 3 + j % 3 = j by omega, hj] at hg
      rw [Go.WideShapes.add_plain, show o + j = o + j / 3 * 3 + j % 3 by omega]
      rcases (by omega : j % 3 = 0 ∨ j % 3 = 1 ∨ j % 3 = 2) with e | e | e
      · rw [e] at hg ⊢; rw [hg]; exact c0
      · rw [e] at hg ⊢; rw [hg]; exact c1
      · rw [e] at hg ⊢; rw [hg]; exact c2
    · unfold OwnM
      rw [List.length_append, cellsM_append]
      exact h1

set_option maxRecDepth 20000 in
set_option maxHeartbeats 4000000 in
theorem splits_walk (a b : Option Addr) (ca cb : Nat) (xs ys : List Mt) (d : Option Addr) (c : Nat) (ps : List Pr) (w : World) (htab : TabW w) (hxa : MtsAt w a xs) (hna : a = none → xs.length = 0 ∧ ca = 0) (hyb : MtsAt w b ys) (hnb : b = none → ys.length = 0 ∧ cb = 0) (h : PairsAt w d ps) (hlx : xs.length ≤ 9223372036854775807) (hly : ys.length ≤ 9223372036854775807) (hn : ps.length ≤ 9223372036854775807) :
    Calls Tryd.prog 3 #[.slice a xs.length ca, .slice b ys.length cb, .slice d ps.length c] w fun e w' => e = .returned (.bool true) ∧ Below w.heap.size w w' := by
  have htl := htab.lt
  have HW := Lib.hid (fun u (hu : TabW u) => mawake_any u hu)
  by_cases h1 : 20 < xs.length
  · have h1' : (20 : Int) < (xs.length : Int) := by omega
    have HA := Lib.hid (mawake_any w htab)
    go_enter Tryd.func3, Tryd.ntmps3
    go_wp2_with (go_at_call 7; refine HA.out.mono ?_; rintro e w1 ⟨rfl, hb1⟩)
    go_ret
    exact ⟨rfl, hb1⟩
  have h1' : ¬ (20 : Int) < (xs.length : Int) := by omega
  by_cases h2 : 20 < ys.length
  · have h2' : (20 : Int) < (ys.length : Int) := by omega
    have HA := Lib.hid (mawake_any w htab)
    go_enter Tryd.func3, Tryd.ntmps3
    go_wp2_with (go_at_call 7; refine HA.out.mono ?_; rintro e w1 ⟨rfl, hb1⟩)
    go_ret
    exact ⟨rfl, hb1⟩
  have h2' : ¬ (20 : Int) < (ys.length : Int) := by omega
  have HL := Lib.hid (nLight_any none d 0 0 c ps w h (by decide) hn)
  by_cases hl : LightP 0 ps
  · rw [decide_eq_true hl] at HL
    have hv : ∀ p ∈ ps, p.2.size ≤ 9223372036854775807 := fun p hp => by have := hl.2.2 p hp; omega
    clear hl
    have HO := Lib.hid (fun (q : Option Addr) (k : Nat) (ms : List Mt) u (hb : Below w.heap.size w u) (hq : MtsAt u q ms) (hml : ms.length ≤ 9223372036854775807) => mAll_any q k ms d c ps u (htab.on hb htl) hq hml (h.below hb (Nat.le_refl _)) hn hv _ rfl)
    have hbA : ∀ u, Below w.heap.size w u → MtsAt u a xs := fun u hu => hxa.below hu (Nat.le_refl _)
    have hbB : ∀ u, Below w.heap.size w u → MtsAt u b ys := fun u hu => hyb.below hu (Nat.le_refl _)
    have HBA := Lib.hid hbA
    have HBB := Lib.hid hbB
    have HNA := Lib.hid hna
    have HNB := Lib.hid hnb
    clear hbA hbB hna hnb hxa hyb h hv
    go_enter Tryd.func3, Tryd.ntmps3
    go_wp2_with (first | (go_at_call 6; refine HL.out.mono ?_; rintro e w1 ⟨rfl, q1⟩) | (at_builtin; refine Hid.out ?_))
    refine Lib.hid ?_
    have bA := q1.alloc q1.size (.cells #[] 29)
    have ownA : OwnM (w1.alloc (.cells #[] 29)) w.heap.size (.slice (some ⟨w1.heap.size, 0, none⟩) 0 0) [] := World.ownsRow_lit w1 #[] 0 q1.size (by decide) rfl
    refine wpList_append_mts rfl _ _ rfl w.heap.size _ [] rfl ownA a ca xs rfl (HBA.out _ bA) HNA.out (by simp; omega) bA.size ?_
    intro v2 w2 own2 g2
    rw [List.nil_append] at own2
    have b2 : Below w.heap.size w w2 := bA.grown g2 bA.size (fun j hj => (World.ownsRow.lt ownA j hj).1)
    clear ownA g2 bA q1
    go_wp2_with (at_builtin; refine Hid.out ?_)
    refine Lib.hid ?_
    refine wpList_append_mts rfl _ _ rfl w.heap.size _ xs rfl own2 b cb ys rfl (HBB.out _ b2) HNB.out (by omega) b2.size ?_
    intro v3 w3 own3 g3
    have b3 : Below w.heap.size w w3 := b2.grown g3 b2.size (fun j hj => (World.ownsRow.lt own2 j hj).1)
    obtain ⟨a3, c3, rfl, hat3⟩ := own3.mts
    clear own2 own3 g3 b2
    have H1 := Lib.hid (HO.out a3 c3 (xs ++ ys) w3 b3 hat3 (by simp; omega))
    have HS : Hid ((∀ m ∈ xs ++ ys, mAsk ps m) ↔ (∀ m ∈ xs, mAsk ps m) ∧ ∀ m ∈ ys, mAsk ps m) := Lib.hid (by simp only [List.mem_append]; exact ⟨fun k => ⟨fun m hm => k m (.inl hm), fun m hm => k m (.inr hm)⟩, fun k m hm => hm.elim (k.1 m) (k.2 m)⟩)
    generalize (xs ++ ys).length = nb at *
    by_cases hX : ∀ m ∈ xs, mAsk ps m
    · by_cases hY : ∀ m ∈ ys, mAsk ps m
      · go_wp2_with (go_at_call 8; refine H1.out.mono ?_; rintro e w4 ⟨ht, q4⟩; obtain rfl := tells_yes ht (HS.out.2 ⟨hX, hY⟩); clear ht; refine Hid.out ?_)
        refine Lib.hid ?_
        have b4 := b3.trans (q4.mono b3.size)
        have H2 := Lib.hid (HO.out a ca xs w4 b4 (HBA.out _ b4) hlx)
        go_wp2_with (go_at_call 8; refine H2.out.mono ?_; rintro e w5 ⟨ht, q5⟩; obtain rfl := tells_yes ht hX; clear ht; refine Hid.out ?_)
        refine Lib.hid ?_
        have b5 := b4.trans (q5.mono b4.size)
        have H3 := Lib.hid (HO.out b cb ys w5 b5 (HBB.out _ b5) hly)
        go_wp2_with (go_at_call 8; refine H3.out.mono ?_; rintro e w6 ⟨ht, q6⟩; obtain rfl := tells_yes ht hY; clear ht; refine Hid.out ?_)
        refine Lib.hid ?_
        have b6 := b5.trans (q6.mono b5.size)
        have H4 := Lib.hid (HO.out none 0 [] w6 b6 (fun k => absurd k (by simp)) (by simp))
        go_wp2_with (go_at_call 8; refine H4.out.mono ?_; rintro e w7 ⟨ht, q7⟩; obtain rfl := tells_yes ht (fun m hm => by cases hm); clear ht; refine Hid.out ?_)
        refine Lib.hid ?_
        have b7 := b6.trans (q7.mono b6.size)
        have HW1 := Lib.hid (HW.out w7 (htab.on b7 htl))
        go_wp2_with (go_at_call 7; refine HW1.out.mono ?_; rintro e w9 ⟨rfl, q9⟩)
        go_ret
        exact ⟨rfl, b7.trans (q9.mono b7.size)⟩
      · go_wp2_with (go_at_call 8; refine H1.out.mono ?_; rintro e w4 ⟨ht, q4⟩; obtain rfl := tells_no ht (fun k => hY (HS.out.1 k).2); clear ht; refine Hid.out ?_)
        refine Lib.hid ?_
        have b4 := b3.trans (q4.mono b3.size)
        have H2 := Lib.hid (HO.out a ca xs w4 b4 (HBA.out _ b4) hlx)
        go_wp2_with (go_at_call 8; refine H2.out.mono ?_; rintro e w5 ⟨ht, q5⟩; obtain rfl := tells_yes ht hX; clear ht; refine Hid.out ?_)
        refine Lib.hid ?_
        have b5 := b4.trans (q5.mono b4.size)
        have H3 := Lib.hid (HO.out b cb ys w5 b5 (HBB.out _ b5) hly)
        go_wp2_with (go_at_call 8; refine H3.out.mono ?_; rintro e w6 ⟨ht, q6⟩; obtain rfl := tells_no ht hY; clear ht; refine Hid.out ?_)
        refine Lib.hid ?_
        have b6 := b5.trans (q6.mono b5.size)
        have H4 := Lib.hid (HO.out none 0 [] w6 b6 (fun k => absurd k (by simp)) (by simp))
        go_wp2_with (go_at_call 8; refine H4.out.mono ?_; rintro e w7 ⟨ht, q7⟩; obtain rfl := tells_yes ht (fun m hm => by cases hm); clear ht; refine Hid.out ?_)
        refine Lib.hid ?_
        have b7 := b6.trans (q7.mono b6.size)
        have HW1 := Lib.hid (HW.out w7 (htab.on b7 htl))
        go_wp2_with (go_at_call 7; refine HW1.out.mono ?_; rintro e w9 ⟨rfl, q9⟩)
        go_ret
        exact ⟨rfl, b7.trans (q9.mono b7.size)⟩
    · go_wp2_with (go_at_call 8; refine H1.out.mono ?_; rintro e w4 ⟨ht, q4⟩; obtain rfl := tells_no ht (fun k => hX (HS.out.1 k).1); clear ht; refine Hid.out ?_)
      refine Lib.hid ?_
      have b4 := b3.trans (q4.mono b3.size)
      have H2 := Lib.hid (HO.out a ca xs w4 b4 (HBA.out _ b4) hlx)
      go_wp2_with (go_at_call 8; refine H2.out.mono ?_; rintro e w5 ⟨ht, q5⟩; obtain rfl := tells_no ht hX; clear ht; refine Hid.out ?_)
      refine Lib.hid ?_
      have b5 := b4.trans (q5.mono b4.size)
      have H4 := Lib.hid (HO.out none 0 [] w5 b5 (fun k => absurd k (by simp)) (by simp))
      go_wp2_with (go_at_call 8; refine H4.out.mono ?_; rintro e w6 ⟨ht, q6⟩; obtain rfl := tells_yes ht (fun m hm => by cases hm); clear ht; refine Hid.out ?_)
      refine Lib.hid ?_
      have b6 := b5.trans (q6.mono b5.size)
      have HW1 := Lib.hid (HW.out w6 (htab.on b6 htl))
      go_wp2_with (go_at_call 7; refine HW1.out.mono ?_; rintro e w9 ⟨rfl, q9⟩)
      go_ret
      exact ⟨rfl, b6.trans (q9.mono b6.size)⟩
  · rw [decide_eq_false hl] at HL
    clear hl
    go_enter Tryd.func3, Tryd.ntmps3
    go_wp2_with (go_at_call 6; refine HL.out.mono ?_; rintro e w1 ⟨rfl, q1⟩; refine Hid.out ?_)
    refine Lib.hid ?_
    have HW1 := Lib.hid (HW.out w1 (htab.on q1 htl))
    go_wp2_with (go_at_call 7; refine HW1.out.mono ?_; rintro e w2 ⟨rfl, q2⟩)
    go_ret
    exact ⟨rfl, q1.trans (q2.mono q1.size)⟩

end Go.Proofs.YtlcbkhmaemoahabDoor
