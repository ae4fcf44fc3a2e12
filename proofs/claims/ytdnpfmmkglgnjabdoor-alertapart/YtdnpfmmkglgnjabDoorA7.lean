/-
  Alerts that lie somewhere; alerts put behind alerts of a call's own. The reference's small calls: Check, Fires, SameAlert, Same.
-/
import Derived.Test.YtdnpfmmkglgnjabDoorA4
import Derived.Test.YtdnpfmmkglgnjabDoorLRefKey
import Derived.Test.YtdnpfmmkglgnjabDoorLRef1
import Derived.Test.YtdnpfmmkglgnjabDoorLPick2
namespace Go.Proofs.YtdnpfmmkglgnjabDoor
open Go.RowKit

/-- Alerts lie at an address, and their labels where they say. -/
def AlsAt (w : World) (a : Option Addr) (L : List Rw) : Prop :=
  0 < L.length → ∃ b o, a = some ⟨b, o, none⟩ ∧ b < w.heap.size ∧ ∀ i (hi : i < L.length), w.cell? ⟨b, o + i * 3, none⟩ = some (.slice L[i].ad L[i].ps.length L[i].cp) ∧ w.cell? ⟨b, o + i * 3 + 1, none⟩ = some (.int .i64 L[i].st) ∧ w.cell? ⟨b, o + i * 3 + 2, none⟩ = some (.int .i64 L[i].en) ∧ PairsAt w L[i].ad L[i].ps
theorem AlsAt.below {w w' : World} {a : Option Addr} {L : List Rw} {B : Nat} (h : AlsAt w a L) (hb : Below B w w') (hB : w.heap.size ≤ B) : AlsAt w' a L := fun hn => by
  obtain ⟨b, o, rfl, hbl, hc⟩ := h hn
  refine ⟨b, o, rfl, Nat.lt_of_lt_of_le hbl hb.size, fun i hi => ?_⟩
  obtain ⟨h1, h2, h3, h4⟩ := hc i hi
  have hlt := Nat.lt_of_lt_of_le hbl hB
  rw [hb.cell (p := ⟨b, o + i * 3, none⟩) hlt, hb.cell (p := ⟨b, o + i * 3 + 1, none⟩) hlt, hb.cell (p := ⟨b, o + i * 3 + 2, none⟩) hlt]
  exact ⟨h1, h2, h3, h4.below hb hB⟩
theorem Picked.at {w : World} {B : Nat} {a : Option Addr} {n c : Nat} {L : List Rw} (h : Picked w B (.slice a n c) L) : AlsAt w a L := fun hn => by
  obtain ⟨a', c', hv, -, hq, hc⟩ := h.1.form
  simp only [Value.slice.injEq] at hv
  obtain ⟨rfl, rfl, rfl⟩ := hv
  obtain ⟨g, rfl, -⟩ := hc 0 hn
  refine ⟨g, 0, rfl, (hq _ rfl).2.1, fun i hi => ?_⟩
  obtain ⟨g', e, h1, h2, h3⟩ := hc i hi
  obtain rfl : g = g' := by simpa using e
  rw [Nat.zero_add]
  refine ⟨h1, h2, h3, ?_⟩
  obtain ⟨a2, c2, hv2, hat, -⟩ := (h.2 _ (List.getElem_mem hi)).form
  simp only [Value.slice.injEq] at hv2
  obtain ⟨rfl, -, -⟩ := hv2
  exact hat
theorem AlsAt.take {w : World} {a : Option Addr} {L : List Rw} (h : AlsAt w a L) (k : Nat) : AlsAt w a (L.take k) := fun hn => by
  rw [List.length_take] at hn
  obtain ⟨b, o, rfl, hbl, hc⟩ := h (by omega)
  refine ⟨b, o, rfl, hbl, fun i hi => ?_⟩
  rw [List.length_take] at hi
  rw [List.getElem_take]
  exact hc i (by omega)
theorem AlsAt.drop {w : World} {b o : Nat} {L : List Rw} (h : AlsAt w (some ⟨b, o, none⟩) L) (k : Nat) : AlsAt w (some ⟨b, o + k * 3, none⟩) (L.drop k) := fun hn => by
  rw [List.length_drop] at hn
  obtain ⟨b', o', e, hbl, hc⟩ := h (by omega)
  obtain ⟨rfl, rfl⟩ : b = b' ∧ o = o' := by simpa using e
  refine ⟨b, _, rfl, hbl, fun i hi => ?_⟩
  rw [List.length_drop] at hi
  rw [List.getElem_drop]
  have := hc (k + i) (by omega)
  simpa [Nat.add_mul, Nat.add_assoc] using this
theorem AlsAt.news {w : World} {a : Option Addr} {L : List Rw} (h : AlsAt w a L) : ∀ q, a = some q → ∀ j u, (cellsW L)[j]? = some u → w.cell? (q.add j) = some u := fun q e j u hj => by
  have hn := (List.getElem?_eq_some_iff.1 hj).1
  rw [cellsW_len] at hn
  obtain ⟨b, o, e2, -, hc⟩ := h (by omega)
  obtain rfl : q = ⟨b, o, none⟩ := Option.some.inj (e.symm.trans e2)
  obtain ⟨h1, h2, h3, -⟩ := hc (j / 3) (by omega)
  obtain ⟨g1, g2, g3⟩ := cellsW_get L (j / 3) (by omega)
  rw [Go.WideShapes.add_plain]
  rcases (by omega : j = j / 3 * 3 ∨ j = j / 3 * 3 + 1 ∨ j = j / 3 * 3 + 2) with e | e | e
  · rw [e, g1] at hj; rw [e, h1, ← hj]
  · rw [e, g2] at hj; rw [e, ← Nat.add_assoc, h2, ← hj]
  · rw [e, g3] at hj; rw [e, ← Nat.add_assoc, h3, ← hj]

/-- append, at alerts of the call's own, of alerts that lie somewhere. -/
theorem run_append_als (ty : TypeId) (w : World) (B : Nat) (v : Value) (rs : List Rw) (hown : OwnA w B v rs) (a : Option Addr) (n c : Nat) (L : List Rw) (hn : n = L.length) (hat : AlsAt w a L) (hc0 : a = none → c = 0) (hb : rs.length + L.length ≤ 1000000) (hB : B ≤ w.heap.size) :
    ∃ v' w', (Builtin.append_ #[30, 30] ty #[v, .slice a n c]).run Tryd.prog w = .ok v' w' ∧ OwnA w' B v' (rs ++ L) ∧ w.grownBy w' v.ownBlock := by
  subst hn
  obtain ⟨i0, hi, hi0, hi1, hi2⟩ := info_parts infoAl
  cases a with
  | none =>
    have h0 : L.length = 0 := by
      by_cases hp : 0 < L.length
      · obtain ⟨b, o, he, -⟩ := hat hp
        cases he
      · omega
    obtain rfl := List.eq_nil_of_length_eq_zero h0
    obtain rfl := hc0 rfl
    refine ⟨v, w, run_append_owned_none (P := Tryd.prog) (w := w) B 30 ty 25 i0 3 Tryd.underlying30 hi v _ _ hown, ?_, World.grownBy.refl w _⟩
    rw [List.append_nil]
    exact hown
  | some q =>
    obtain ⟨v', w', hr, h1, h2, -, -⟩ := run_append_own_at (P := Tryd.prog) w B 30 ty 25 i0 _ 3 40 Tryd.underlying30 hi hi0 hi1 hi2 rfl (by decide) v _ _ hown q L.length c (cellsW L) (cellsW_len L) (hat.news q rfl) cellsW_one (by unfold maxLen; omega) (by omega) hB
    refine ⟨v', w', hr, ?_, h2⟩
    unfold OwnA
    rw [List.length_append, cellsW_append]
    exact h1
theorem wpList_append_als (w : World) {ops : Array Oper} {rest : List Oper} {o : Oper} {act : Act} {Q : Exit → Act → World → Prop} (hgd : o.guard = none) (s x : Operand)
    (ho : o.op = .call { callee := .builtin .append, args := #[s, x], argTypes := #[30, 30] }) (B : Nat) (v : Value) (rs : List Rw) (hs : act.eval s = v) (hown : OwnA w B v rs)
    (a : Option Addr) (n c : Nat) (L : List Rw) (hx : act.eval x = .slice a n c) (hn : n = L.length) (hat : AlsAt w a L) (hc0 : a = none → c = 0) (hb : rs.length + L.length ≤ 1000000) (hB : B ≤ w.heap.size)
    (h : ∀ v' w', OwnA w' B v' (rs ++ L) → w.grownBy w' v.ownBlock → wpList Tryd.prog ops Q rest (act.put o.dst v') w') : wpList Tryd.prog ops Q (o :: rest) act w := by
  refine wpList_plain hgd fun K hK => ?_
  obtain ⟨v', w', hr, h1, h2⟩ := run_append_als o.type w B v rs hown a n c L hn hat hc0 hb hB
  unfold Oper.wp execOp
  simp only [ho, resolve, invoke, builtin, Sem.run_bind, Sem.run_pure, Result.andThen_ok, List.map_toArray, List.map_cons, List.map_nil, hs, hx, hr]
  exact hK _ _ (h v' w' h1 h2)
theorem step_append_als {w : World} {ops : Array Oper} {o : Oper} {act : Act} {K : Act → World → Prop} {Q : Exit → Act → World → Prop} {E : Prop} (hgd : o.guard = none) (s x : Operand)
    (ho : o.op = .call { callee := .builtin .append, args := #[s, x], argTypes := #[30, 30] }) (B : Nat) (v : Value) (rs : List Rw) (hs : act.eval s = v) (hown : OwnA w B v rs)
    (a : Option Addr) (n c : Nat) (L : List Rw) (hx : act.eval x = .slice a n c) (hn : n = L.length) (hat : AlsAt w a L) (hc0 : a = none → c = 0) (hb : rs.length + L.length ≤ 1000000) (hB : B ≤ w.heap.size)
    (h : ∀ v' w', OwnA w' B v' (rs ++ L) → w.grownBy w' v.ownBlock → K (act.put o.dst v') w') :
    if Region.wanted o (yielded ops act.tmps) = true then Oper.wp Tryd.prog o act w K Q else E := by
  have hw : Region.wanted o (yielded ops act.tmps) = true := by simp [Region.wanted, hgd]
  rw [if_pos hw]
  obtain ⟨v', w', hr, h1, h2⟩ := run_append_als o.type w B v rs hown a n c L hn hat hc0 hb hB
  unfold Oper.wp execOp
  simp only [ho, resolve, invoke, builtin, Sem.run_bind, Sem.run_pure, Result.andThen_ok, List.map_toArray, List.map_cons, List.map_nil, hs, hx, hr]
  exact h v' w' h1 h2

/-- The reference's key of pairs that may be. -/
theorem arKey_ok (a : Option Addr) (c : Nat) (ps : List Pr) (w : World) (h : PairsAt w a ps) (hc : checkE ps = 0) (n : Nat) (hn : n = ps.length) :
    Calls Tryd.prog 29 #[.slice a n c] w fun e w' => e = .returned (.string ⟨(keyL ps).toArray⟩) ∧ Below w.heap.size w w' := by
  have h8 := acheck_len hc
  have hf := check_fit hc
  have hl := aflat_le ps fun p hp => by have := hf p hp; omega
  exact refKey_any a c ps w h (by omega) (fun p hp => by have := hf p hp; omega) (by omega) n hn

set_option maxHeartbeats 1000000 in
theorem arCheck_any (a : Option Addr) (c : Nat) (ps : List Pr) (s e : Int) (w : World) (h : PairsAt w a ps) (hs : ∀ p ∈ ps, p.1.size ≤ 9223372036854775807) (n : Nat) (hnl : n = ps.length) :
    Calls Tryd.prog 27 #[.agg #[.slice a n c, .int .i64 s, .int .i64 e]] w fun r w' => r = .returned (.int .i64 (alE ps s e)) ∧ Below w.heap.size w w' := by
  have d1 := (Below.refl w.heap.size w).alloc (Nat.le_refl _) (.cells #[.slice a n c, .int .i64 s, .int .i64 e] 25)
  have k1 := AlBlk.new w a n c s e
  have HC := Lib.hid (refCheck_any a c ps _ (h.below d1 (Nat.le_refl _)) hs)
  rw [← hnl] at HC
  have s1 : (w.alloc (.cells #[.slice a n c, .int .i64 s, .int .i64 e] 25)).heap.size = w.heap.size + 1 := by simp
  have HH := Lib.hid (And.intro d1 (And.intro k1 s1))
  have HE : Hid (alE ps s e = if checkE ps ≠ 0 then checkE ps else if n = 0 then 6 else if s < 0 ∨ e ≤ s ∨ 1099511627776 < e then 13 else 0) := Lib.hid (by rw [hnl]; rfl)
  generalize alE ps s e = R at *
  generalize checkE ps = E at *
  clear d1 k1 s1 h hnl hs
  by_cases hE : E = 0
  · subst hE
    by_cases hn : n = 0
    · subst hn
      have hR : R = 6 := by rw [HE.out]; simp
      subst hR
      clear HE
      go_enter Tryd.func27, Tryd.ntmps27
      go_wp2_with (go_at_call 36; refine HC.out.mono ?_; rintro r w' ⟨rfl, hb⟩; refine Hid.out ?_)
      refine Lib.hid ?_
      obtain ⟨d1, k1, s1⟩ := HH.out
      have k2 := k1.below hb (by omega)
      have c0 := k2.c0; have c1 := k2.c1; have c2 := k2.c2
      have HB := Lib.hid (d1.trans (hb.mono (by omega)))
      clear k1 k2 d1 hb HC HH s1
      go_wp2
      go_ret
      exact ⟨rfl, HB.out⟩
    · have hnz : ¬ (n : Int) = 0 := by omega
      have HE2 : Hid (R = if s < 0 ∨ e ≤ s ∨ 1099511627776 < e then 13 else 0) := Lib.hid (by rw [HE.out, if_neg (by simp), if_neg hn])
      clear HE
      by_cases h1 : s < 0
      · obtain rfl : R = 13 := by rw [HE2.out]; simp [h1]
        clear HE2
        go_enter Tryd.func27, Tryd.ntmps27
        go_wp2_with (go_at_call 36; refine HC.out.mono ?_; rintro r w' ⟨rfl, hb⟩; refine Hid.out ?_)
        refine Lib.hid ?_
        obtain ⟨d1, k1, s1⟩ := HH.out
        have k2 := k1.below hb (by omega)
        have c0 := k2.c0; have c1 := k2.c1; have c2 := k2.c2
        have HB := Lib.hid (d1.trans (hb.mono (by omega)))
        clear k1 k2 d1 hb HC HH s1
        go_wp2
        go_ret
        exact ⟨rfl, HB.out⟩
      · by_cases h2 : e ≤ s
        · obtain rfl : R = 13 := by rw [HE2.out]; simp [h2]
          clear HE2
          go_enter Tryd.func27, Tryd.ntmps27
          go_wp2_with (go_at_call 36; refine HC.out.mono ?_; rintro r w' ⟨rfl, hb⟩; refine Hid.out ?_)
          refine Lib.hid ?_
          obtain ⟨d1, k1, s1⟩ := HH.out
          have k2 := k1.below hb (by omega)
          have c0 := k2.c0; have c1 := k2.c1; have c2 := k2.c2
          have HB := Lib.hid (d1.trans (hb.mono (by omega)))
          clear k1 k2 d1 hb HC HH s1
          go_wp2
          go_ret
          exact ⟨rfl, HB.out⟩
        · by_cases h3 : 1099511627776 < e
          · obtain rfl : R = 13 := by rw [HE2.out]; simp [h3]
            clear HE2
            go_enter Tryd.func27, Tryd.ntmps27
            go_wp2_with (go_at_call 36; refine HC.out.mono ?_; rintro r w' ⟨rfl, hb⟩; refine Hid.out ?_)
            refine Lib.hid ?_
            obtain ⟨d1, k1, s1⟩ := HH.out
            have k2 := k1.below hb (by omega)
            have c0 := k2.c0; have c1 := k2.c1; have c2 := k2.c2
            have HB := Lib.hid (d1.trans (hb.mono (by omega)))
            clear k1 k2 d1 hb HC HH s1
            go_wp2
            go_ret
            exact ⟨rfl, HB.out⟩
          · obtain rfl : R = 0 := by rw [HE2.out, if_neg (by omega)]
            clear HE2
            go_enter Tryd.func27, Tryd.ntmps27
            go_wp2_with (go_at_call 36; refine HC.out.mono ?_; rintro r w' ⟨rfl, hb⟩; refine Hid.out ?_)
            refine Lib.hid ?_
            obtain ⟨d1, k1, s1⟩ := HH.out
            have k2 := k1.below hb (by omega)
            have c0 := k2.c0; have c1 := k2.c1; have c2 := k2.c2
            have HB := Lib.hid (d1.trans (hb.mono (by omega)))
            clear k1 k2 d1 hb HC HH s1
            go_wp2
            go_ret
            exact ⟨rfl, HB.out⟩
  · obtain rfl : R = E := by rw [HE.out, if_pos hE]
    clear HE
    go_enter Tryd.func27, Tryd.ntmps27
    go_wp2_with (go_at_call 36; refine HC.out.mono ?_; rintro r w' ⟨rfl, hb⟩; refine Hid.out ?_)
    refine Lib.hid ?_
    obtain ⟨d1, k1, s1⟩ := HH.out
    have HB := Lib.hid (d1.trans (hb.mono (by omega)))
    clear k1 d1 hb HC HH s1
    go_wp2
    go_ret
    exact ⟨rfl, HB.out⟩


/-- Whether two alerts are the same. -/
def sameA (x y : Rw) : Bool := decide (x.al = y.al)
set_option maxHeartbeats 1000000 in
theorem arSameA_any (x y : Rw) (w : World) (hx : PairsAt w x.ad x.ps) (hy : PairsAt w y.ad y.ps) (hn : x.ps.length ≤ 9223372036854775807) :
    Calls Tryd.prog 11 #[.agg #[.slice x.ad x.ps.length x.cp, .int .i64 x.st, .int .i64 x.en], .agg #[.slice y.ad y.ps.length y.cp, .int .i64 y.st, .int .i64 y.en]] w fun r w' => r = .returned (.bool (sameA x y)) ∧ Below w.heap.size w w' := by
  have d1 := (Below.refl w.heap.size w).alloc (Nat.le_refl _) (.cells #[.slice x.ad x.ps.length x.cp, .int .i64 x.st, .int .i64 x.en] 25)
  have d2 := d1.alloc (by simp) (.cells #[.slice y.ad y.ps.length y.cp, .int .i64 y.st, .int .i64 y.en] 25)
  have HS := Lib.hid (refSame_any x.ad y.ad x.cp y.cp x.ps y.ps _ (hx.below d2 (Nat.le_refl _)) (hy.below d2 (Nat.le_refl _)) hn _ _ rfl rfl)
  have D2 := Lib.hid d2
  have HE : Hid (sameA x y = (decide (x.st = y.st) && (decide (x.en = y.en) && decide (x.ps = y.ps)))) := Lib.hid (by
    unfold sameA Rw.al
    rw [Bool.eq_iff_iff]
    simp only [decide_eq_true_eq, Prod.mk.injEq, Bool.and_eq_true]
    exact ⟨fun ⟨h1, h2, h3⟩ => ⟨h2, h3, h1⟩, fun ⟨h1, h2, h3⟩ => ⟨h3, h1, h2⟩⟩)
  rw [HE.out]
  clear d1 d2 hx hy hn HE
  generalize decide (x.ps = y.ps) = P at *
  generalize x.ps.length = n at *
  generalize y.ps.length = m at *
  generalize x.st = s1 at *
  generalize y.st = s2 at *
  generalize x.en = e1 at *
  generalize y.en = e2 at *
  by_cases h1 : s1 = s2
  · by_cases h2 : e1 = e2
    · subst h1 h2
      go_enter Tryd.func11, Tryd.ntmps11
      go_wp2_with (go_at_call 24; refine HS.out.mono ?_; rintro r w' ⟨rfl, hb⟩)
      go_ret
      exact ⟨by simp, D2.out.trans (hb.mono D2.out.size)⟩
    · have h2' : (e1 == e2) = false := beq_eq_false_iff_ne.2 h2
      subst h1
      go_enter Tryd.func11, Tryd.ntmps11
      go_wp2
      go_ret
      exact ⟨by simp [h2], D2.out⟩
  · have h1' : (s1 == s2) = false := beq_eq_false_iff_ne.2 h1
    go_enter Tryd.func11, Tryd.ntmps11
    go_wp2
    go_ret
    exact ⟨by simp [h1], D2.out⟩

/-- An alert's three cells at a place. -/
def AlC (w : World) (b p : Nat) (r : Rw) : Prop := b < w.heap.size ∧ w.cell? ⟨b, p, none⟩ = some (.slice r.ad r.ps.length r.cp) ∧ w.cell? ⟨b, p + 1, none⟩ = some (.int .i64 r.st) ∧ w.cell? ⟨b, p + 2, none⟩ = some (.int .i64 r.en)
theorem AlC.below {w w' : World} {b p : Nat} {r : Rw} {N : Nat} (h : AlC w b p r) (hb : Below N w w') (hN : w.heap.size ≤ N) : AlC w' b p r := by
  have hlt := Nat.lt_of_lt_of_le h.1 hN
  refine ⟨Nat.lt_of_lt_of_le h.1 hb.size, ?_⟩
  rw [hb.cell (p := ⟨b, p, none⟩) hlt, hb.cell (p := ⟨b, p + 1, none⟩) hlt, hb.cell (p := ⟨b, p + 2, none⟩) hlt]
  exact h.2
theorem AlsAt.c {w : World} {a : Option Addr} {L : List Rw} (h : AlsAt w a L) (k : Nat) (hk : k < L.length) : ∃ b o, a = some ⟨b, o, none⟩ ∧ AlC w b (o + k * 3) L[k] ∧ PairsAt w L[k].ad L[k].ps := by
  obtain ⟨b, o, rfl, hb, hc⟩ := h (by omega)
  obtain ⟨h1, h2, h3, h4⟩ := hc k hk
  exact ⟨b, o, rfl, ⟨hb, h1, h2, h3⟩, h4⟩
/-- Alerts with labels that fit into a machine. -/
def Fits7 (L : List Rw) : Prop := ∀ r ∈ L, r.ps.length ≤ 9223372036854775807

theorem same_upto {X Y : List Rw} (hl : X.length = Y.length) (h : ∀ j (hj : j < X.length), (X[j]).al = (Y[j]'(by omega)).al) : X.map Rw.al = Y.map Rw.al := by
  refine List.ext_getElem (by simpa using hl) fun i h1 h2 => ?_
  simp only [List.getElem_map]
  exact h i (by simpa using h1)

end Go.Proofs.YtdnpfmmkglgnjabDoor
