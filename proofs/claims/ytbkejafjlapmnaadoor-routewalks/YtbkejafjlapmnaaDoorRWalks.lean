/-
  The reference's Children; whether two lists of numbers are the same. Where labels go, as the reference tells it. The walk of RouteWalks.
-/
import Derived.Test.YtbkejafjlapmnaaDoorRWalk
import Derived.Laws.AppendOwnNone
import Derived.Test.YtbkejafjlapmnaaDoorRAwake
import Derived.Test.YtbkejafjlapmnaaDoorRLight
import Derived.Test.YtbkejafjlapmnaaDoorM7
namespace Go.Proofs.YtbkejafjlapmnaaDoor
open Go.RowKit

set_option maxRecDepth 20000 in
set_option maxHeartbeats 2000000 in
theorem uChildren_any (a : Option Addr) (c : Nat) (l : List Rt) (i : Nat) (w : World) (hl : RtsAt w a l) (hn : l.length ≤ 1000000) (hi : i < l.length) :
    Calls Tryd.prog 25 #[.slice a l.length c, .int .i64 (i : Int)] w fun e w' => TellsInts (kidsP l i) e w' ∧ Below w.heap.size w w' := by
  have h1 : (0 : Int) ≤ (i : Int) := by omega
  have h2 : (i : Int) < (l.length : Int) := by omega
  obtain ⟨i0, hi, hi0, hi1, hi2⟩ := info_parts infoInt
  have HR := Lib.hid hl
  clear hl
  go_enter Tryd.func25, Tryd.ntmps25
  go_wp2
  go_loopw [5, 6] (fun s z wr => ∃ (k : Nat) (va : Option Addr) (vc : Nat), k ≤ l.length ∧ s = .slice va (kidsTo l i k).length vc ∧ z = .int .i64 k ∧ Hid (wr.ownsRow w.heap.size 3 1 (.slice va (kidsTo l i k).length vc) (kidsTo l i k).length (intsV (kidsTo l i k))) ∧ Hid (Below w.heap.size w wr)) (fun _ z _ => l.length - (intOf z).toNat)
  case atStart => exact ⟨0, none, 0, Nat.zero_le _, rfl, rfl, Lib.hid (World.ownsRow_nil _ _ _ _), Lib.hid (Below.refl _ _)⟩
  case round =>
    obtain ⟨k, va, vc, hk, rfl, rfl, HO, HB⟩ := hrel
    have hkb := kids_len l i k
    by_cases hlt : k < l.length
    · have hkl : (k : Int) < (l.length : Int) := by omega
      obtain ⟨rb, ro, rfl, hrb, hr⟩ := HR.out (by omega)
      have c0 : wr.cell? ⟨rb, ro + k * 8, none⟩ = some (.int .i64 l[k].par) := (HB.out.cell (p := ⟨rb, ro + k * 8 + 0, none⟩) hrb).trans ((hr k hlt).1 0 _ rfl)
      clear hr
      have hbs := HB.out.size
      by_cases hp : l[k].par = (i : Int)
      · have HK := Lib.hid (kidsTo_succ_yes hlt hp)
        rw [hp] at c0
        generalize kidsTo l i k = ks at *
        go_wp2_with (at_builtin; refine wpList_append_own _ rfl _ _ 46 rfl w.heap.size 3 i0 _ 1 8 Tryd.underlying46 hi hi0 hi1 hi2 rfl (by decide) (.slice va ks.length vc) ks.length (intsV ks) rfl (HO.out.alloc _) ⟨_, 0, none⟩ 1 1 [.int .i64 (k : Int)] rfl rfl (World.news_of_block (cs := #[.int .i64 (k : Int)]) (heap_alloc_new _ _)) (by intro u' hu'; simp at hu'; subst hu'; rfl) (by unfold maxLen; omega) (by omega) (by simp; omega) ?_; refine Hid.out ?_)
        refine Lib.hid ?_
        intro v2 w2 ho2 hg _
        obtain ⟨va2, vc2, rfl⟩ := own_shape ho2
        have HB2 := Lib.hid ((HB.out.alloc hbs (.cells #[.int .i64 (k : Int)] 3)).grown hg (by simp; omega) (fun q hq => (HO.out.lt q hq).1))
        have HO2 := Lib.hid ho2
        clear ho2 hg c0
        go_wp2
        go_roundw
        case rel => exact ⟨k + 1, va2, vc2, by omega, by rw [HK.out, List.length_append]; rfl, by go_num, by rw [HK.out, List.length_append, intsV_app]; exact HO2, HB2⟩
        case measure => simp [intOf]; omega
      · have HK := Lib.hid (kidsTo_succ_no hlt hp)
        have hp' : (l[k].par == (i : Int)) = false := by simpa using hp
        generalize l[k].par = x at *
        go_wp2
        go_roundw
        case rel => exact ⟨k + 1, va, vc, by omega, by rw [HK.out], by go_num, by rw [HK.out]; exact HO, HB⟩
        case measure => simp [intOf]; omega
    · obtain rfl : k = l.length := by omega
      obtain ⟨xa, xc, hxe, hI⟩ := ints_own HO.out
      simp only [Value.slice.injEq, true_and] at hxe
      obtain ⟨rfl, rfl⟩ := hxe
      have HI := Lib.hid hI
      clear hI
      go_wp2
      go_ret
      exact ⟨⟨va, vc, rfl, HI.out⟩, HB.out⟩

/-- Numbers put behind numbers of the call's own. -/
theorem wpList_append_ints (w : World) {ops : Array Oper} {rest : List Oper} {o : Oper} {act : Act} {Q : Exit → Act → World → Prop} (hgd : o.guard = none) (s x : Operand)
    (ho : o.op = .call { callee := .builtin .append, args := #[s, x], argTypes := #[46, 46] }) (B : Nat) (v : Value) (rs : List Nat) (hs : act.eval s = v) (hown : w.ownsRow B 3 1 v rs.length (intsV rs))
    (q : Addr) (c : Nat) (ps : List Nat) (hx : act.eval x = .slice (some q) ps.length c) (hat : IntsAt w (some q) ps) (hb : rs.length + ps.length ≤ 1000000000) (hB : B ≤ w.heap.size)
    (h : ∀ v' w', w'.ownsRow B 3 1 v' (rs ++ ps).length (intsV (rs ++ ps)) → w.grownBy w' v.ownBlock → wpList Tryd.prog ops Q rest (act.put o.dst v') w') : wpList Tryd.prog ops Q (o :: rest) act w := by
  obtain ⟨i0, hi, hi0, hi1, hi2⟩ := info_parts infoInt
  refine wpList_append_own w hgd s x 46 ho B 3 i0 _ 1 8 Tryd.underlying46 hi hi0 hi1 hi2 rfl (by decide) v rs.length (intsV rs) hs hown q ps.length c (intsV ps) hx (by rw [intsV_len, Nat.mul_one]) (fun j u hj => ?_) (fun u hu => ?_) (by unfold maxLen; omega) (by omega) hB (fun v' w' h1 h2 _ => h v' w' ?_ h2)
  · have hj2 := (List.getElem?_eq_some_iff.1 hj).1
    rw [intsV_len] at hj2
    obtain ⟨b, o, he, -, hc⟩ := hat (by omega)
    obtain rfl := Option.some.inj he
    rw [Go.WideShapes.add_plain, hc j hj2]
    simpa [intsV, hj2] using hj
  · obtain ⟨k, -, rfl⟩ := List.mem_map.1 hu
    rfl
  · rw [List.length_append, intsV_app]
    exact h1


/-- Numbers that are handed back: nil where there are none. -/
def TellsList (L : List Nat) (e : Ending) (w' : World) : Prop := (L = [] ∧ e = .returned (.slice none 0 0)) ∨ (L ≠ [] ∧ ∃ q c, e = .returned (.slice (some q) L.length c) ∧ IntsAt w' (some q) L)

set_option maxRecDepth 20000 in
set_option maxHeartbeats 4000000 in
theorem ufrom_any (a : Option Addr) (c : Nat) (l : List Rt) (d : Option Addr) (m pc : Nat) (tk : Nat → Bool) (W : World) (hl : RtsAt W a l) (hn : l.length ≤ 1000000)
    (HAll : ∀ i (hi : i < l.length) u, Below W.heap.size W u → Calls Tryd.prog 78 #[.slice l[i].ma l[i].ms.length l[i].mc, .slice d m pc] u fun e w' => e = .returned (.bool (tk i)) ∧ Below u.heap.size u w') :
    ∀ f ab k w, ab + f = l.length + 1 → k < l.length → Below W.heap.size W w → (walkP tk (coP l) (kidsP l) f k).length ≤ 1000000000 →
    Calls Tryd.prog 50 #[.slice a l.length c, .int .i64 (k : Int), .slice d m pc, .int .i64 (ab : Int)] w fun e w' => TellsList (walkP tk (coP l) (kidsP l) f k) e w' ∧ Below w.heap.size w w' := by
  intro f
  induction f with
  | zero =>
    intro ab k w hab hk hw hL
    have hgt : (l.length : Int) < (ab : Int) := by omega
    clear hL hab HAll
    go_enter Tryd.func50, Tryd.ntmps50
    go_wp2
    go_ret
    exact ⟨Or.inl ⟨rfl, rfl⟩, Below.refl _ _⟩
  | succ f ih =>
    intro ab k w hab hk hw hL
    obtain ⟨rb, ro, rfl, hrb, hr⟩ := hl (by omega)
    have cr1 : w.cell? ⟨rb, ro + k * 8 + 1, none⟩ = some (.slice l[k].ma l[k].ms.length l[k].mc) := (hw.cell (p := ⟨rb, ro + k * 8 + 1, none⟩) hrb).trans ((hr k hk).1 1 _ rfl)
    have hgt : ¬ (l.length : Int) < (ab : Int) := by omega
    have hkl : (k : Int) < (l.length : Int) := by omega
    have HA := Lib.hid (HAll k hk w hw)
    obtain ⟨R, hR⟩ : ∃ R, walkP tk (coP l) (kidsP l) (f + 1) k = R := ⟨_, rfl⟩
    rw [hR] at hL ⊢
    have HL := Lib.hid hL
    have HRd := Lib.hid hR
    have HW := Lib.hid hw
    have HR := Lib.hid hr
    have HRts := Lib.hid hl
    have HI := Lib.hid ih
    have HCh := Lib.hid (fun u (hu : Below W.heap.size W u) => uChildren_any (some ⟨rb, ro, none⟩) c l k u (hl.below hu (Nat.le_refl _)) hn hk)
    generalize l[k].ma = ma at *
    generalize l[k].mc = mc at *
    generalize hms : l[k].ms.length = ml at *
    clear hR hL hw hr hms ih HAll hl
    cases hkt : tk k with
    | false =>
      have HP : Hid (R = []) := Lib.hid (by rw [← HRd.out]; unfold walkP; rw [hkt]; rfl)
      rw [hkt] at HA
      clear hkt HRd
      go_enter Tryd.func50, Tryd.ntmps50
      go_wp2_with (go_at_call 78; refine HA.out.mono ?_; rintro e w1 ⟨rfl, q1⟩)
      go_ret
      exact ⟨Or.inl ⟨HP.out, rfl⟩, q1⟩
    | true =>
      have HP : Hid (R = if runKids (walkP tk (coP l) (kidsP l) f) (coP l) (kidsP l k) = [] then [k] else runKids (walkP tk (coP l) (kidsP l) f) (coP l) (kidsP l k)) := Lib.hid (by rw [← HRd.out, walkP]; simp only [hkt, if_true])
      rw [hkt] at HA
      clear hkt HRd
      have hks : (kidsP l k).length ≤ 1000000 := Nat.le_trans (kids_len l k l.length) hn
      have HKl : Hid (∀ q ∈ kidsP l k, q < l.length) := Lib.hid fun q hq => kids_lt hq
      generalize walkP tk (coP l) (kidsP l) f = g at *
      go_enter Tryd.func50, Tryd.ntmps50
      go_wp2_with (go_at_call 78; refine HA.out.mono ?_; rintro e w1 ⟨rfl, q1⟩; refine Hid.out ?_)
      refine Lib.hid ?_
      have HW1 := Lib.hid (HW.out.trans (q1.mono HW.out.size))
      have HB1 := Lib.hid q1
      have HC1 := Lib.hid (HCh.out w1 HW1.out)
      clear q1 HA HCh cr1
      generalize kidsP l k = ks at *
      go_wp2_with (go_at_call 25; refine HC1.out.mono ?_; rintro e w2 ⟨⟨ka, kc, rfl, i2⟩, q2⟩; refine Hid.out ?_)
      refine Lib.hid ?_
      have HW2 := Lib.hid (HW1.out.trans (q2.mono HW1.out.size))
      have HB2 := Lib.hid (HB1.out.trans (q2.mono HB1.out.size))
      have HK := Lib.hid i2
      clear q2 i2 HC1 HW1 HB1
      go_wp2
      go_loopw [9, 11] (fun s z wr => ∃ (j : Nat) (pre : List Nat) (va : Option Addr) (vc : Nat), j ≤ ks.length ∧ s = .slice va pre.length vc ∧ z = .int .i64 j ∧ Hid (wr.ownsRow w2.heap.size 3 1 (.slice va pre.length vc) pre.length (intsV pre)) ∧ Hid (Below w2.heap.size w2 wr) ∧ Hid (runKids g (coP l) ks = pre ++ runKids g (coP l) (ks.drop j))) (fun _ z _ => ks.length - (intOf z).toNat)
      case atStart => exact ⟨0, [], none, 0, Nat.zero_le _, rfl, rfl, Lib.hid (World.ownsRow_nil _ _ _ _), Lib.hid (Below.refl _ _), Lib.hid rfl⟩
      case round =>
        obtain ⟨j, pre, va, vc, hj, rfl, rfl, HO, HB, HE⟩ := hrel
        by_cases hjl : j < ks.length
        · have hjl' : (j : Int) < (ks.length : Int) := by omega
          obtain ⟨kb, ko, rfl, hkb, hc⟩ := HK.out (by omega)
          have ckj : wr.cell? ⟨kb, ko + j, none⟩ = some (.int .i64 ((ks[j] : Nat) : Int)) := (HB.out.cell (p := ⟨kb, ko + j, none⟩) hkb).trans (hc j hjl)
          have hql := HKl.out _ (List.getElem_mem hjl)
          have HD := Lib.hid (drop_at hjl)
          clear hc
          generalize ks[j] = q at *
          have hLb : pre.length + (g q).length ≤ 1000000000 := by
            have e1 := HE.out
            rw [HD.out] at e1
            have e2 := congrArg List.length e1
            rw [List.length_append] at e2
            have e3 := runKids_head g (coP l) q (ks.drop (j + 1))
            have e4 := HL.out
            have e5 : (runKids g (coP l) ks).length ≤ R.length := by
              rw [HP.out]
              split
              · rename_i h0; rw [h0]; simp
              · exact Nat.le_refl _
            omega
          have HWr := Lib.hid (HW2.out.trans (HB.out.mono HW2.out.size))
          have HI1 := Lib.hid (HI.out (ab + 1) q wr (by omega) hql HWr.out (by omega))
          rw [show ((ab + 1 : Nat) : Int) = (ab : Int) + 1 by omega] at HI1
          have hqi : (q : Int) < (l.length : Int) := by omega
          have HCo : Hid (coP l q = l[q].co) := Lib.hid (by unfold coP; simp [hql])
          have HRq := Lib.hid ((HR.out q hql).1 2 _ rfl)
          have hbs := HB.out.size
          by_cases hg : g q = []
          · have HE2 : Hid (runKids g (coP l) ks = pre ++ runKids g (coP l) (ks.drop (j + 1))) := Lib.hid (by rw [HE.out, HD.out, runKids, if_pos hg])
            have HI2 := Lib.hid (HI1.out.mono (R' := fun e w' => e = .returned (.slice none 0 0) ∧ Below wr.heap.size wr w') fun e w' ⟨h1, h2⟩ => ⟨by
              rcases h1 with ⟨-, h1⟩ | ⟨h1, -⟩
              · exact h1
              · exact absurd hg h1, h2⟩)
            clear HI1 HE HD hg
            go_wp2_with (go_at_call 50; refine HI2.out.mono ?_; rintro e w3 ⟨rfl, q3⟩; refine Hid.out ?_)
            refine Lib.hid ?_
            have HB3 := Lib.hid (HB.out.trans (q3.mono hbs))
            have HO3 := Lib.hid (own_below HO.out q3)
            obtain ⟨i0, hi, hi0, hi1, hi2⟩ := info_parts infoInt
            clear q3 ckj
            go_wp2_with (at_builtin; refine wpList_append_own_none rfl _ _ 46 rfl w2.heap.size 3 i0 1 Tryd.underlying46 hi (.slice va pre.length vc) pre.length (intsV pre) rfl HO3.out rfl ?_)
            go_roundw
            case rel => exact ⟨j + 1, pre, va, vc, by omega, rfl, by go_num, HO3, HB3, HE2⟩
            case measure => simp [intOf]; omega
          · have HI2 := Lib.hid (HI1.out.mono (R' := fun e w' => (∃ qq qc, e = .returned (.slice (some qq) (g q).length qc) ∧ IntsAt w' (some qq) (g q)) ∧ Below wr.heap.size wr w') fun e w' ⟨h1, h2⟩ => ⟨by
              rcases h1 with ⟨h1, -⟩ | ⟨-, h1⟩
              · exact absurd h1 hg
              · exact h1, h2⟩)
            have hgl : (0 : Int) < ((g q).length : Int) := by have := List.length_pos_iff.2 hg; omega
            have CKJ := Lib.hid ((HB.out.cell (p := ⟨kb, ko + j, none⟩) hkb).symm.trans ckj)
            have HGn := Lib.hid hg
            clear HI1
            cases hco : l[q].co with
            | true =>
              rw [hco] at HRq HCo
              have HE2 : Hid (runKids g (coP l) ks = (pre ++ g q) ++ runKids g (coP l) (ks.drop (j + 1))) := Lib.hid (by rw [HE.out, HD.out]; simp [runKids, hg, HCo.out])
              clear HE HD HCo hco hg
              go_wp2_with (first | (go_at_call 50; refine HI2.out.mono ?_; rintro e w3 ⟨⟨qq, qc, rfl, i3⟩, q3⟩; refine Hid.out ?_))
              refine Lib.hid ?_
              have HB3 := Lib.hid (HB.out.trans (q3.mono hbs))
              have HO3 := Lib.hid (own_below HO.out q3)
              have hbs3 := HB3.out.size
              have HI3 := Lib.hid i3
              clear q3 i3
              go_wp2_with (at_builtin; refine wpList_append_ints _ rfl _ _ rfl w2.heap.size (.slice va pre.length vc) pre rfl HO3.out qq qc (g q) rfl HI3.out hLb hbs3 ?_; refine Hid.out ?_)
              refine Lib.hid ?_
              intro v4 w4 ho4 hg4
              obtain ⟨va4, vc4, rfl⟩ := own_shape ho4
              have HB4 := Lib.hid (HB3.out.grown hg4 hbs3 (fun x hx => (HO3.out.lt x hx).1))
              have HO4 := Lib.hid ho4
              have cr4 : w4.cell? ⟨rb, ro + q * 8 + 2, none⟩ = some (.bool true) := ((HW2.out.trans (HB4.out.mono HW2.out.size)).cell (p := ⟨rb, ro + q * 8 + 2, none⟩) hrb).trans HRq.out
              have ck4 : w4.cell? ⟨kb, ko + j, none⟩ = some (.int .i64 (q : Int)) := (HB4.out.cell (p := ⟨kb, ko + j, none⟩) hkb).trans CKJ.out
              clear ho4 hg4 HI3
              go_wp2
              go_roundw
              case rel => exact ⟨j + 1, pre ++ g q, va4, vc4, by omega, by rw [List.length_append], by go_num, by rw [List.length_append]; exact HO4, HB4, HE2⟩
              case measure => simp [intOf]; omega
            | false =>
              rw [hco] at HRq HCo
              have HR2 : Hid (R = pre ++ g q) := Lib.hid (by
                have e1 : runKids g (coP l) ks = pre ++ g q := by rw [HE.out, HD.out]; simp [runKids, hg, HCo.out]
                rw [HP.out, e1, if_neg (by simp [hg])])
              clear HE HD HCo hco hg
              go_wp2_with (first | (go_at_call 50; refine HI2.out.mono ?_; rintro e w3 ⟨⟨qq, qc, rfl, i3⟩, q3⟩; refine Hid.out ?_))
              refine Lib.hid ?_
              have HB3 := Lib.hid (HB.out.trans (q3.mono hbs))
              have HO3 := Lib.hid (own_below HO.out q3)
              have hbs3 := HB3.out.size
              have HI3 := Lib.hid i3
              clear q3 i3
              go_wp2_with (at_builtin; refine wpList_append_ints _ rfl _ _ rfl w2.heap.size (.slice va pre.length vc) pre rfl HO3.out qq qc (g q) rfl HI3.out hLb hbs3 ?_; refine Hid.out ?_)
              refine Lib.hid ?_
              intro v4 w4 ho4 hg4
              obtain ⟨va4, vc4, rfl⟩ := own_shape ho4
              have HB4 := Lib.hid (HB3.out.grown hg4 hbs3 (fun x hx => (HO3.out.lt x hx).1))
              have HO4 := Lib.hid ho4
              have cr4 : w4.cell? ⟨rb, ro + q * 8 + 2, none⟩ = some (.bool false) := ((HW2.out.trans (HB4.out.mono HW2.out.size)).cell (p := ⟨rb, ro + q * 8 + 2, none⟩) hrb).trans HRq.out
              have ck4 : w4.cell? ⟨kb, ko + j, none⟩ = some (.int .i64 (q : Int)) := (HB4.out.cell (p := ⟨kb, ko + j, none⟩) hkb).trans CKJ.out
              clear ho4 hg4 HI3
              have hne4 : ((pre.length : Int) + ((g q).length : Int) == 0) = false := by rw [beq_eq_false_iff_ne]; omega
              obtain ⟨xa, xc, hxe, hI⟩ := ints_own (L := pre ++ g q) (by rw [List.length_append]; exact HO4.out)
              simp only [Value.slice.injEq, List.length_append, true_and] at hxe
              obtain ⟨rfl, rfl⟩ := hxe
              obtain ⟨gb, go, rfl, -, -⟩ := hI (by rw [List.length_append]; have := List.length_pos_iff.2 HGn.out; omega)
              have HI5 := Lib.hid hI
              clear hI
              go_wp2
              go_ret
              refine ⟨?_, HB2.out.trans (HB4.out.mono HB2.out.size)⟩
              rw [HR2.out]
              exact Or.inr ⟨by simp [HGn.out], _, _, by rw [List.length_append]; rfl, HI5.out⟩
        · have hjl' : ¬ (j : Int) < (ks.length : Int) := by omega
          have HE2 : Hid (runKids g (coP l) ks = pre) := Lib.hid (by rw [HE.out, List.drop_of_length_le (by omega), runKids, List.append_nil])
          have HBe := Lib.hid (HB2.out.trans (HB.out.mono HB2.out.size))
          clear HE
          by_cases hp : pre = []
          · subst hp
            have HR2 : Hid (R = [k]) := Lib.hid (by rw [HP.out, HE2.out]; rfl)
            have HBf := Lib.hid (HBe.out.alloc HBe.out.size (.cells #[.int .i64 (k : Int)] 3))
            have hlast := heap_new wr (.cells #[.int .i64 (k : Int)] 3)
            have HLa := Lib.hid hlast
            clear hlast HI HK HKl HE2 HP HO
            go_wp2
            go_ret
            refine ⟨?_, HBf.out⟩
            rw [HR2.out]
            refine Or.inr ⟨by simp, ⟨wr.heap.size, 0, none⟩, 1, rfl, fun _ => ⟨wr.heap.size, 0, rfl, by simp, fun i hi => ?_⟩⟩
            obtain rfl : i = 0 := by simpa using hi
            exact cell_heap HLa.out
          · have HR2 : Hid (R = pre) := Lib.hid (by rw [HP.out, HE2.out, if_neg hp])
            have hne4 : ((pre.length : Int) == 0) = false := by have := List.length_pos_iff.2 hp; rw [beq_eq_false_iff_ne]; omega
            obtain ⟨xa, xc, hxe, hI⟩ := ints_own HO.out
            simp only [Value.slice.injEq, true_and] at hxe
            obtain ⟨rfl, rfl⟩ := hxe
            obtain ⟨gb, go, rfl, -, -⟩ := hI (List.length_pos_iff.2 hp)
            have HI5 := Lib.hid hI
            have HPn := Lib.hid hp
            clear hI HI HK HKl HE2 HP HO hp
            go_wp2
            go_ret
            exact ⟨by rw [HR2.out]; exact Or.inr ⟨HPn.out, _, _, rfl, HI5.out⟩, HBe.out⟩


theorem IntsAt.of_tells {L : List Nat} {e : Ending} {w : World} (h : TellsList L e w) : TellsInts L e w := by
  rcases h with ⟨h1, h2⟩ | ⟨-, q, c, h1, h2⟩
  · subst h1
    exact ⟨none, 0, h2, fun h => absurd h (by simp)⟩
  · exact ⟨_, _, h1, h2⟩

set_option maxRecDepth 20000 in
set_option maxHeartbeats 2000000 in
theorem sameInts_any (a : Option Addr) (c : Nat) (b : Option Addr) (d : Nat) (L : List Nat) (w : World) (ha : IntsAt w a L) (hb : IntsAt w b L) (hn : L.length ≤ 1000000000) :
    Calls Tryd.prog 21 #[.slice a L.length c, .slice b L.length d] w fun e w' => e = .returned (.bool true) ∧ Below w.heap.size w w' := by
  go_enter Tryd.func21, Tryd.ntmps21
  go_wp2
  go_loopw [5] (fun z wr => ∃ k : Nat, k ≤ L.length ∧ z = .int .i64 k ∧ Hid (Below w.heap.size w wr)) (fun z _ => L.length - (intOf z).toNat)
  case atStart => exact ⟨0, Nat.zero_le _, rfl, Lib.hid (Below.refl _ _)⟩
  case round =>
    obtain ⟨k, hk, rfl, HB⟩ := hrel
    by_cases hlt : k < L.length
    · have hkl : (k : Int) < (L.length : Int) := by omega
      obtain ⟨xb, xo, rfl, hxb, hx⟩ := ha (by omega)
      obtain ⟨yb, yo, rfl, hyb, hy⟩ := hb (by omega)
      have ck : wr.cell? ⟨xb, xo + k, none⟩ = some (.int .i64 ((L[k] : Nat) : Int)) := (HB.out.cell (p := ⟨xb, xo + k, none⟩) hxb).trans (hx k hlt)
      have dk : wr.cell? ⟨yb, yo + k, none⟩ = some (.int .i64 ((L[k] : Nat) : Int)) := (HB.out.cell (p := ⟨yb, yo + k, none⟩) hyb).trans (hy k hlt)
      clear hx hy ha hb
      generalize L[k] = z at *
      go_wp2_with fail
      refine wp_region_any (by kernel_rfl) ?_
      change wpAny _ _ _ _ _ _ _ (World.drew _)
      have hS : (fun w' : World => w'.cell? ⟨xb, xo + k, none⟩ = some (.int .i64 (z : Int)) ∧ w'.cell? ⟨yb, yo + k, none⟩ = some (.int .i64 (z : Int))) wr.drew := ⟨ck, dk⟩
      refine wpAny_of_held (S := fun w' => w'.cell? ⟨xb, xo + k, none⟩ = some (.int .i64 (z : Int)) ∧ w'.cell? ⟨yb, yo + k, none⟩ = some (.int .i64 (z : Int))) _ _ _ _ ?_
      refine wpAnyH_take_at (i := 0) (some 17) (v := ?_) rfl rfl (by as_aux_lemma => kernel_rfl) (by as_aux_lemma => kernel_rfl) (by as_aux_lemma => kernel_rfl) (fun _ _ _ h => h) (Or.inl ⟨by kernel_rfl, ?_⟩) hS ?_
      rotate_left
      · intro w hSw; obtain ⟨e1, e2⟩ := hSw; go_simp
        first | done | with_reducible rfl
      skip
      refine wpAnyH_take_at (i := 1) (some 18) (v := ?_) rfl rfl (by as_aux_lemma => kernel_rfl) (by as_aux_lemma => kernel_rfl) (by as_aux_lemma => kernel_rfl) (fun _ _ _ h => h) (Or.inl ⟨by kernel_rfl, ?_⟩) hS ?_
      rotate_left
      · intro w hSw; obtain ⟨e1, e2⟩ := hSw; go_simp
        first | done | with_reducible rfl
      skip
      refine wpAnyH_take_at (i := 2) (some 19) (v := ?_) rfl rfl (by as_aux_lemma => kernel_rfl) (by as_aux_lemma => kernel_rfl) (by as_aux_lemma => kernel_rfl) (fun _ _ _ h => h) (Or.inl ⟨by kernel_rfl, ?_⟩) hS ?_
      rotate_left
      · intro w hSw; obtain ⟨e1, e2⟩ := hSw; go_simp
        first | done | with_reducible rfl
      skip
      refine wpAnyH_take_at (i := 3) (some 20) (v := ?_) rfl rfl (by as_aux_lemma => kernel_rfl) (by as_aux_lemma => kernel_rfl) (by as_aux_lemma => kernel_rfl) (fun _ _ _ h => h) (Or.inl ⟨by kernel_rfl, ?_⟩) hS ?_
      rotate_left
      · intro w hSw; obtain ⟨e1, e2⟩ := hSw; go_simp
        first | done | with_reducible rfl
      skip
      refine wpAnyH_take_at (i := 4) (some 21) (v := ?_) rfl rfl (by as_aux_lemma => kernel_rfl) (by as_aux_lemma => kernel_rfl) (by as_aux_lemma => kernel_rfl) (fun _ _ _ h => h) (Or.inl ⟨by kernel_rfl, ?_⟩) hS ?_
      rotate_left
      · intro w hSw; obtain ⟨e1, e2⟩ := hSw; go_simp
        first | done | with_reducible rfl
      skip
      refine wpAnyH_take_at (i := 5) (some 22) (v := ?_) rfl rfl (by as_aux_lemma => kernel_rfl) (by as_aux_lemma => kernel_rfl) (by as_aux_lemma => kernel_rfl) (fun _ _ _ h => h) (Or.inl ⟨by kernel_rfl, ?_⟩) hS ?_
      rotate_left
      · intro w hSw; obtain ⟨e1, e2⟩ := hSw; go_simp
        first | done | with_reducible rfl
      skip
      refine wpAnyH_take_at (i := 6) (some 23) (v := ?_) rfl rfl (by as_aux_lemma => kernel_rfl) (by as_aux_lemma => kernel_rfl) (by as_aux_lemma => kernel_rfl) (fun _ _ _ h => h) (Or.inl ⟨by kernel_rfl, ?_⟩) hS ?_
      rotate_left
      · intro w hSw; obtain ⟨e1, e2⟩ := hSw; go_simp
        first | done | with_reducible rfl
      skip
      refine wpAnyH_take_at (i := 7) (some 24) (v := ?_) rfl rfl (by as_aux_lemma => kernel_rfl) (by as_aux_lemma => kernel_rfl) (by as_aux_lemma => kernel_rfl) (fun _ _ _ h => h) (Or.inl ⟨by kernel_rfl, ?_⟩) hS ?_
      rotate_left
      · intro w hSw; obtain ⟨e1, e2⟩ := hSw; go_simp
        first | done | with_reducible rfl
      skip
      refine wpAnyH_take_at (i := 8) (some 25) (v := ?_) rfl rfl (by as_aux_lemma => kernel_rfl) (by as_aux_lemma => kernel_rfl) (by as_aux_lemma => kernel_rfl) (fun _ _ _ h => h) (Or.inl ⟨by kernel_rfl, ?_⟩) hS ?_
      rotate_left
      · intro w hSw; obtain ⟨e1, e2⟩ := hSw; go_simp
        first | done | with_reducible rfl
      skip
      refine wpAnyH_done (by kernel_rfl) ?_ _
      have HB2 := Lib.hid HB.out.drew
      clear hS ck dk HB
      go_simp
      generalize wr.drew = w2 at *
      go_wp2
      go_roundw
      case rel => exact ⟨k + 1, by omega, by go_num, HB2⟩
      case measure => simp [intOf]; omega
    · obtain rfl : k = L.length := by omega
      go_wp2
      go_ret
      exact ⟨rfl, HB.out⟩

set_option maxRecDepth 20000 in
set_option maxHeartbeats 2000000 in
theorem tKids_in (a : Option Addr) (c : Nat) (l : List Rt) (i : Nat) (w : World) (hl : RtsAt w a l) (hn : l.length ≤ 1000000) (hi : i < l.length) :
    Calls Tryd.prog 24 #[.slice a l.length c, .int .i64 (i : Int)] w fun e w' => TellsInts (kidsP l i) e w' ∧ Below w.heap.size w w' := by
  have HA := Lib.hid (tall_any a c l w hl hn)
  have h1 : ¬ (i : Int) < 0 := by omega
  have h2 : ¬ (l.length : Int) ≤ (i : Int) := by omega
  have h3 : (i : Int) < (l.length : Int) := by omega
  clear hl
  go_enter Tryd.func24, Tryd.ntmps24
  go_wp2_with (go_at_call 48; refine HA.out.mono ?_; rintro e w1 ⟨rfl, hF, q1⟩; obtain ⟨ka, kc, ck, hI⟩ := hF.2 i hi; have HI := Lib.hid hI; clear hF hI)
  go_ret
  exact ⟨⟨ka, kc, rfl, HI.out⟩, q1⟩
set_option maxHeartbeats 1000000 in
theorem tKids_out (a : Option Addr) (c n : Nat) (i : Int) (w : World) (hi : i < 0 ∨ (n : Int) ≤ i) :
    Calls Tryd.prog 24 #[.slice a n c, .int .i64 i] w fun e w' => TellsInts [] e w' ∧ Below w.heap.size w w' := by
  by_cases h1 : i < 0
  · go_enter Tryd.func24, Tryd.ntmps24
    go_wp2
    go_ret
    exact ⟨⟨none, 0, rfl, fun h => absurd h (by simp)⟩, Below.refl _ _⟩
  · have h2 : (n : Int) ≤ i := by omega
    go_enter Tryd.func24, Tryd.ntmps24
    go_wp2
    go_ret
    exact ⟨⟨none, 0, rfl, fun h => absurd h (by simp)⟩, Below.refl _ _⟩
set_option maxHeartbeats 1000000 in
theorem uKids_out (a : Option Addr) (c n : Nat) (i : Int) (w : World) (hn : n ≤ 1000000) (hi : i < 0 ∨ (n : Int) ≤ i) :
    Calls Tryd.prog 25 #[.slice a n c, .int .i64 i] w fun e w' => TellsInts [] e w' ∧ Below w.heap.size w w' := by
  go_enter Tryd.func25, Tryd.ntmps25
  go_wp2
  go_loopw [5, 6] (fun s z wr => s = .slice none 0 0 ∧ z = .int .i64 0 ∧ wr = w) (fun _ _ _ => 0)
  case atStart => exact ⟨rfl, rfl, rfl⟩
  case round =>
    obtain ⟨rfl, rfl, rfl⟩ := hrel
    by_cases h0 : n = 0
    · subst h0
      go_wp2
      go_ret
      exact ⟨⟨none, 0, rfl, fun h => absurd h (by simp)⟩, Below.refl _ _⟩
    · have h0' : (0 : Int) < (n : Int) := by omega
      by_cases h1 : i < 0
      · have h1' : ¬ (0 : Int) ≤ i := by omega
        go_wp2
        go_ret
        exact ⟨⟨none, 0, rfl, fun h => absurd h (by simp)⟩, Below.refl _ _⟩
      · have h1' : (0 : Int) ≤ i := by omega
        have h2 : ¬ i < (n : Int) := by omega
        go_wp2
        go_ret
        exact ⟨⟨none, 0, rfl, fun h => absurd h (by simp)⟩, Below.refl _ _⟩

set_option maxRecDepth 20000 in
set_option maxHeartbeats 2000000 in
theorem uWalk_any (a : Option Addr) (c : Nat) (l : List Rt) (d : Option Addr) (m pc : Nat) (tk : Nat → Bool) (w : World) (hl : RtsAt w a l) (hn : l.length ≤ 1000)
    (HAll : ∀ i (hi : i < l.length) u, Below w.heap.size w u → Calls Tryd.prog 78 #[.slice l[i].ma l[i].ms.length l[i].mc, .slice d m pc] u fun e w' => e = .returned (.bool (tk i)) ∧ Below u.heap.size u w') :
    Calls Tryd.prog 23 #[.slice a l.length c, .slice d m pc] w fun e w' => TellsInts (walkL l tk) e w' ∧ Below w.heap.size w w' := by
  by_cases h0 : l.length = 0
  · have hW : walkL l tk = [] := by unfold walkL; rw [if_pos h0]
    rw [hW]
    have h0' : ((l.length : Int) == 0) = true := by simp [h0]
    clear hl HAll h0 hW
    go_enter Tryd.func23, Tryd.ntmps23
    go_wp2
    go_ret
    exact ⟨⟨none, 0, rfl, fun h => absurd h (by simp)⟩, Below.refl _ _⟩
  · have hW : walkL l tk = walkP tk (coP l) (kidsP l) (l.length + 1) 0 := by unfold walkL; rw [if_neg h0]
    have h0' : ((l.length : Int) == 0) = false := by simp [h0]
    have HF := Lib.hid ((ufrom_any a c l d m pc tk w hl (by omega) HAll (l.length + 1) 0 0 w (by omega) (by omega) (Below.refl _ _) (by
      have h1 := walk_few l tk (coP l) (l.length + 1) 0 (by omega)
      have h2 : (l.length + 1) * l.length ≤ 1001 * 1000 := Nat.mul_le_mul (by omega) hn
      omega)).mono fun e w' ⟨k1, k2⟩ => And.intro (IntsAt.of_tells k1) k2)
    rw [← hW] at HF
    generalize walkL l tk = L at *
    clear hl HAll h0 hW
    go_enter Tryd.func23, Tryd.ntmps23
    go_wp2_with (go_at_call 50; refine HF.out.mono ?_; rintro e w1 ⟨⟨ta, tc, rfl, hI⟩, q1⟩; have HI := Lib.hid hI; clear hI)
    go_ret
    exact ⟨⟨ta, tc, rfl, HI.out⟩, q1⟩

set_option maxRecDepth 20000 in
set_option maxHeartbeats 8000000 in
theorem walks_walk (a : Option Addr) (c : Nat) (l : List Rt) (b : Option Addr) (cb : Nat) (ls : List Rl) (pt rs : Int) (d : Option Addr) (pc : Nat) (ps : List Pr) (i : Int) (w : World) (htab : TabW w) (hl : RtsAt w a l) (hls : RlsAt w b ls) (okl : ∀ r ∈ l, RtOk r) (hn : l.length ≤ 9223372036854775807) (hm : ls.length ≤ 9223372036854775807) (hps : PairsAt w d ps) (hpn : ps.length ≤ 9223372036854775807) :
    Calls Tryd.prog 6 #[.agg #[.slice a l.length c, .slice b ls.length cb, .int .i64 pt, .int .i64 rs], .slice d ps.length pc, .int .i64 i] w fun e w' => e = .returned (.bool true) ∧ Below w.heap.size w w' := by
  have htl := htab.lt
  obtain ⟨tk, htk⟩ := tk_ex l ps
  have hA := (Below.refl w.heap.size w).alloc (Nat.le_refl _) (.cells #[.slice a l.length c, .slice b ls.length cb, .int .i64 pt, .int .i64 rs] 41)
  have hm0 : CfBlk (w.alloc (.cells #[.slice a l.length c, .slice b ls.length cb, .int .i64 pt, .int .i64 rs] 41)) w.heap.size a l.length c b ls.length cb pt rs := heap_new w _
  have HW := Lib.hid (fun u (hb : Below w.heap.size w u) => tawake_any u (htab.on hb htl))
  have HL := Lib.hid (uLight_any a c l b cb ls pt rs _ (hl.below hA (Nat.le_refl _)) (hls.below hA (Nat.le_refl _)) hn hm)
  have HP := Lib.hid (fun u (hb : Below w.heap.size w u) => nLight_any none d 0 0 pc ps u (hps.below hb (Nat.le_refl _)) (by decide) hpn)
  have HB0 := Lib.hid hA
  have HM0 := Lib.hid hm0
  by_cases hL : LightC l ls
  · have HLt := Lib.hid hL
    have hl20 : l.length ≤ 20 := hL.1
    have hok : (∀ r ∈ l, r.ms.length ≤ 9223372036854775807) := fun r hr => (okl r hr).1.1
    have HT1 := Lib.hid (fun (hpv : ∀ q ∈ ps, q.2.size ≤ 200) u (hb : Below w.heap.size w u) => tWalk_any a c l d pc ps tk htk u (htab.on hb htl) (hl.below hb (Nat.le_refl _)) (hps.below hb (Nat.le_refl _)) (by omega) hok hpn (fun q hq => by have := hpv q hq; omega))
    have HT2 := Lib.hid (fun (hpv : ∀ q ∈ ps, q.2.size ≤ 200) u (hb : Below w.heap.size w u) => uWalk_any a c l d ps.length pc tk u (hl.below hb (Nat.le_refl _)) (by omega) fun k hk v hv =>
      (nAll_any l[k].ma l[k].mc l[k].ms d pc ps v (by
        obtain ⟨rb, ro, -, -, hr⟩ := hl (by omega)
        exact (hr k hk).2.1.below (hb.trans (hv.mono hb.size)) (Nat.le_refl _)) (hok _ (List.getElem_mem hk)) (fun m hm => ((okl _ (List.getElem_mem hk)).1.2 m hm).1) (hps.below (hb.trans (hv.mono hb.size)) (Nat.le_refl _)) hpn (fun q hq => by have := hpv q hq; omega)).mono fun e w' ⟨k1, k2⟩ => And.intro (tkP_of htk hk k1) k2)
    obtain ⟨Kd, HK1, HK2, hKl⟩ : ∃ Kd : List Nat, Hid (∀ u, Below w.heap.size w u → Calls Tryd.prog 24 #[.slice a l.length c, .int .i64 i] u fun e w' => TellsInts Kd e w' ∧ Below u.heap.size u w') ∧ Hid (∀ u, Below w.heap.size w u → Calls Tryd.prog 25 #[.slice a l.length c, .int .i64 i] u fun e w' => TellsInts Kd e w' ∧ Below u.heap.size u w') ∧ Kd.length ≤ 1000000 := by
      by_cases hi : 0 ≤ i ∧ i < (l.length : Int)
      · obtain ⟨q, rfl⟩ := Int.eq_ofNat_of_zero_le hi.1
        exact ⟨kidsP l q, Lib.hid fun u hb => tKids_in a c l q u (hl.below hb (Nat.le_refl _)) (by omega) (by omega), Lib.hid fun u hb => uChildren_any a c l q u (hl.below hb (Nat.le_refl _)) (by omega) (by omega), by have := kids_len l q l.length; unfold kidsP; omega⟩
      · exact ⟨[], Lib.hid fun u _ => tKids_out a c l.length i u (by omega), Lib.hid fun u _ => uKids_out a c l.length i u (by omega) (by omega), by simp⟩
    have hLb : (walkL l tk).length ≤ 1000000 := by
      unfold walkL
      split
      · simp
      · have h1 := walk_few l tk (coP l) (l.length + 1) 0 (by omega)
        have h2 : (l.length + 1) * l.length ≤ 21 * 20 := Nat.mul_le_mul (by omega) hl20
        omega
    generalize walkL l tk = L at *
    clear hA hm0 hl hls okl hps htab hL hok htk
    go_enter Tryd.func6, Tryd.ntmps6
    go_wp2_with (go_at_call 17; refine HL.out.mono ?_; rintro e w1 ⟨ht, q1⟩; obtain rfl := tells_yes ht HLt.out; clear ht; refine Hid.out ?_)
    refine Lib.hid ?_
    have b1 := HB0.out.trans (q1.mono HB0.out.size)
    have m1 := HM0.out.below q1
    clear q1 HL HB0 HM0 HLt
    have HP1 := Lib.hid (HP.out w1 b1)
    by_cases hP : LightP 0 ps
    · rw [decide_eq_true hP] at HP1
      have HT3 := Lib.hid (HT1.out hP.2.2)
      have HT4 := Lib.hid (HT2.out hP.2.2)
      clear HT1 HT2 hP
      go_wp2_with (go_at_call 14; refine HP1.out.mono ?_; rintro e w2 ⟨rfl, q2⟩; refine Hid.out ?_)
      refine Lib.hid ?_
      have b2 := b1.trans (q2.mono b1.size)
      have m2 := m1.below q2
      clear q2 b1 m1 HP1 HP
      go_wp2_with fail
      refine wp_region_any (by kernel_rfl) ?_
      change wpAny _ _ _ _ _ _ _ (World.drew _)
      have hS : (fun w' : World => CfBlk w' w.heap.size a l.length c b ls.length cb pt rs) w2.drew := m2
      refine wpAny_of_held (S := fun w' => CfBlk w' w.heap.size a l.length c b ls.length cb pt rs) _ _ _ _ ?_
      refine wpAnyH_take_at (i := 0) (some 16) (v := ?_) rfl rfl (by as_aux_lemma => kernel_rfl) (by as_aux_lemma => kernel_rfl) (by as_aux_lemma => kernel_rfl) (fun _ _ _ h => h) (Or.inl ⟨by kernel_rfl, ?_⟩) hS ?_
      rotate_left
      · intro w hSw; have c0 := cell_heap (j := 0) hSw; simp only [List.getElem?_toArray, List.getElem?_cons_zero] at c0; go_simp
        first | done | with_reducible rfl
      skip
      refine wpAnyH_take_at (i := 1) (some 17) (v := ?_) rfl rfl (by as_aux_lemma => kernel_rfl) (by as_aux_lemma => kernel_rfl) (by as_aux_lemma => kernel_rfl) (fun _ _ _ h => h) (Or.inl ⟨by kernel_rfl, ?_⟩) hS ?_
      rotate_left
      · intro w hSw; have c0 := cell_heap (j := 0) hSw; simp only [List.getElem?_toArray, List.getElem?_cons_zero] at c0; go_simp
        first | done | with_reducible rfl
      skip
      refine wpAnyH_take_at (i := 2) (some 18) (v := ?_) rfl rfl (by as_aux_lemma => kernel_rfl) (by as_aux_lemma => kernel_rfl) (by as_aux_lemma => kernel_rfl) (fun _ _ _ h => h) (Or.inl ⟨by kernel_rfl, ?_⟩) hS ?_
      rotate_left
      · intro w hSw; have c0 := cell_heap (j := 0) hSw; simp only [List.getElem?_toArray, List.getElem?_cons_zero] at c0; go_simp
        first | done | with_reducible rfl
      skip
      refine wpAnyH_take_at (i := 4) (some 20) (v := ?_) rfl rfl (by as_aux_lemma => kernel_rfl) (by as_aux_lemma => kernel_rfl) (by as_aux_lemma => kernel_rfl) (fun _ _ _ h => h) (Or.inl ⟨by kernel_rfl, ?_⟩) hS ?_
      rotate_left
      · intro w hSw; have c0 := cell_heap (j := 0) hSw; simp only [List.getElem?_toArray, List.getElem?_cons_zero] at c0; go_simp
        first | done | with_reducible rfl
      skip
      refine wpAnyH_take_at (i := 5) (some 21) (v := ?_) rfl rfl (by as_aux_lemma => kernel_rfl) (by as_aux_lemma => kernel_rfl) (by as_aux_lemma => kernel_rfl) (fun _ _ _ h => h) (Or.inl ⟨by kernel_rfl, ?_⟩) hS ?_
      rotate_left
      · intro w hSw; have c0 := cell_heap (j := 0) hSw; simp only [List.getElem?_toArray, List.getElem?_cons_zero] at c0; go_simp
        first | done | with_reducible rfl
      skip
      refine wpAnyH_take_at (i := 6) (some 22) (v := ?_) rfl rfl (by as_aux_lemma => kernel_rfl) (by as_aux_lemma => kernel_rfl) (by as_aux_lemma => kernel_rfl) (fun _ _ _ h => h) (Or.inl ⟨by kernel_rfl, ?_⟩) hS ?_
      rotate_left
      · intro w hSw; have c0 := cell_heap (j := 0) hSw; simp only [List.getElem?_toArray, List.getElem?_cons_zero] at c0; go_simp
        first | done | with_reducible rfl
      skip
      refine wpAnyH_ready (rs := [3]) (by as_aux_lemma => kernel_rfl) (by simp) ?_
      refine AllReadyH.cons rfl (fun K hK => ?_) AllReadyH.nil
      go_simp
      go_wp2_with (have y0 := b2.drew; go_at_call 22; refine (HT3.out _ y0).mono ?_; rintro e v1 ⟨⟨xa, xc, rfl, i1⟩, p1⟩; have y1 := y0.trans (p1.mono y0.size))
      refine hK.out _ _ ?_ (fun hS => ?_)
      · exact hS.below p1
      clear hK K
      refine wpAnyH_ready (rs := [7]) (by as_aux_lemma => kernel_rfl) (by simp) ?_
      refine AllReadyH.cons rfl (fun K hK => ?_) AllReadyH.nil
      go_simp
      go_wp2_with (go_at_call 23; refine (HT4.out _ y1).mono ?_; rintro e v2 ⟨⟨za, zc, rfl, i2⟩, p2⟩; have y2 := y1.trans (p2.mono y1.size); have j1 := i1.below p2 (Nat.le_refl _))
      refine hK.out _ _ ?_ (fun hS => ?_)
      · exact hS.below p2
      clear hK K
      refine wpAnyH_ready (rs := [8]) (by as_aux_lemma => kernel_rfl) (by simp) ?_
      refine AllReadyH.cons rfl (fun K hK => ?_) AllReadyH.nil
      go_simp
      go_wp2_with (go_at_call 21; refine (sameInts_any xa xc za zc L _ j1 i2 (by omega)).mono ?_; rintro e v3 ⟨rfl, p3⟩; have y3 := y2.trans (p3.mono y2.size))
      refine hK.out _ _ ?_ (fun hS => ?_)
      · exact hS.below p3
      clear hK K
      refine wpAnyH_take_at (i := 9) (some 25) (v := ?_) rfl rfl (by as_aux_lemma => kernel_rfl) (by as_aux_lemma => kernel_rfl) (by as_aux_lemma => kernel_rfl) (fun _ _ _ h => h) (Or.inl ⟨by kernel_rfl, ?_⟩) hS ?_
      rotate_left
      · intro w hSw; have c0 := cell_heap (j := 0) hSw; simp only [List.getElem?_toArray, List.getElem?_cons_zero] at c0; go_simp
        first | done | with_reducible rfl
      skip
      refine wpAnyH_take_at (i := 10) (some 26) (v := ?_) rfl rfl (by as_aux_lemma => kernel_rfl) (by as_aux_lemma => kernel_rfl) (by as_aux_lemma => kernel_rfl) (fun _ _ _ h => h) (Or.inl ⟨by kernel_rfl, ?_⟩) hS ?_
      rotate_left
      · intro w hSw; have c0 := cell_heap (j := 0) hSw; simp only [List.getElem?_toArray, List.getElem?_cons_zero] at c0; go_simp
        first | done | with_reducible rfl
      skip
      refine wpAnyH_take_at (i := 11) (some 27) (v := ?_) rfl rfl (by as_aux_lemma => kernel_rfl) (by as_aux_lemma => kernel_rfl) (by as_aux_lemma => kernel_rfl) (fun _ _ _ h => h) (Or.inl ⟨by kernel_rfl, ?_⟩) hS ?_
      rotate_left
      · intro w hSw; have c0 := cell_heap (j := 0) hSw; simp only [List.getElem?_toArray, List.getElem?_cons_zero] at c0; go_simp
        first | done | with_reducible rfl
      skip
      refine wpAnyH_take_at (i := 12) (some 28) (v := ?_) rfl rfl (by as_aux_lemma => kernel_rfl) (by as_aux_lemma => kernel_rfl) (by as_aux_lemma => kernel_rfl) (fun _ _ _ h => h) (Or.inl ⟨by kernel_rfl, ?_⟩) hS ?_
      rotate_left
      · intro w hSw; have c0 := cell_heap (j := 0) hSw; simp only [List.getElem?_toArray, List.getElem?_cons_zero] at c0; go_simp
        first | done | with_reducible rfl
      skip
      refine wpAnyH_take_at (i := 14) (some 30) (v := ?_) rfl rfl (by as_aux_lemma => kernel_rfl) (by as_aux_lemma => kernel_rfl) (by as_aux_lemma => kernel_rfl) (fun _ _ _ h => h) (Or.inl ⟨by kernel_rfl, ?_⟩) hS ?_
      rotate_left
      · intro w hSw; have c0 := cell_heap (j := 0) hSw; simp only [List.getElem?_toArray, List.getElem?_cons_zero] at c0; go_simp
        first | done | with_reducible rfl
      skip
      refine wpAnyH_take_at (i := 15) (some 31) (v := ?_) rfl rfl (by as_aux_lemma => kernel_rfl) (by as_aux_lemma => kernel_rfl) (by as_aux_lemma => kernel_rfl) (fun _ _ _ h => h) (Or.inl ⟨by kernel_rfl, ?_⟩) hS ?_
      rotate_left
      · intro w hSw; have c0 := cell_heap (j := 0) hSw; simp only [List.getElem?_toArray, List.getElem?_cons_zero] at c0; go_simp
        first | done | with_reducible rfl
      skip
      refine wpAnyH_take_at (i := 16) (some 32) (v := ?_) rfl rfl (by as_aux_lemma => kernel_rfl) (by as_aux_lemma => kernel_rfl) (by as_aux_lemma => kernel_rfl) (fun _ _ _ h => h) (Or.inl ⟨by kernel_rfl, ?_⟩) hS ?_
      rotate_left
      · intro w hSw; have c0 := cell_heap (j := 0) hSw; simp only [List.getElem?_toArray, List.getElem?_cons_zero] at c0; go_simp
        first | done | with_reducible rfl
      skip
      refine wpAnyH_ready (rs := [13]) (by as_aux_lemma => kernel_rfl) (by simp) ?_
      refine AllReadyH.cons rfl (fun K hK => ?_) AllReadyH.nil
      go_simp
      go_wp2_with (go_at_call 24; refine (HK1.out _ y3).mono ?_; rintro e v4 ⟨⟨ua, uc, rfl, i4⟩, p4⟩; have y4 := y3.trans (p4.mono y3.size))
      refine hK.out _ _ ?_ (fun hS => ?_)
      · exact hS.below p4
      clear hK K
      refine wpAnyH_ready (rs := [17]) (by as_aux_lemma => kernel_rfl) (by simp) ?_
      refine AllReadyH.cons rfl (fun K hK => ?_) AllReadyH.nil
      go_simp
      go_wp2_with (go_at_call 25; refine (HK2.out _ y4).mono ?_; rintro e v5 ⟨⟨ta, tc, rfl, i5⟩, p5⟩; have y5 := y4.trans (p5.mono y4.size); have j4 := i4.below p5 (Nat.le_refl _))
      refine hK.out _ _ ?_ (fun hS => ?_)
      · exact hS.below p5
      clear hK K
      refine wpAnyH_ready (rs := [18]) (by as_aux_lemma => kernel_rfl) (by simp) ?_
      refine AllReadyH.cons rfl (fun K hK => ?_) AllReadyH.nil
      go_simp
      go_wp2_with (go_at_call 21; refine (sameInts_any ua uc ta tc Kd _ j4 i5 (by omega)).mono ?_; rintro e v6 ⟨rfl, p6⟩; have y6 := y5.trans (p6.mono y5.size))
      refine hK.out _ _ ?_ (fun hS => ?_)
      · exact hS.below p6
      clear hK K
      refine wpAnyH_take_at (i := 19) (some 35) (v := ?_) rfl rfl (by as_aux_lemma => kernel_rfl) (by as_aux_lemma => kernel_rfl) (by as_aux_lemma => kernel_rfl) (fun _ _ _ h => h) (Or.inl ⟨by kernel_rfl, ?_⟩) hS ?_
      rotate_left
      · intro w hSw; have c0 := cell_heap (j := 0) hSw; simp only [List.getElem?_toArray, List.getElem?_cons_zero] at c0; go_simp
        first | done | with_reducible rfl
      skip
      refine wpAnyH_take_at (i := 20) (some 36) (v := ?_) rfl rfl (by as_aux_lemma => kernel_rfl) (by as_aux_lemma => kernel_rfl) (by as_aux_lemma => kernel_rfl) (fun _ _ _ h => h) (Or.inl ⟨by kernel_rfl, ?_⟩) hS ?_
      rotate_left
      · intro w hSw; have c0 := cell_heap (j := 0) hSw; simp only [List.getElem?_toArray, List.getElem?_cons_zero] at c0; go_simp
        first | done | with_reducible rfl
      skip
      refine wpAnyH_ready (rs := [21]) (by as_aux_lemma => kernel_rfl) (by simp) ?_
      refine AllReadyH.cons rfl (fun K hK => ?_) AllReadyH.nil
      go_simp
      go_wp2_with (go_at_call 20; refine (HW.out _ y6).mono ?_; rintro e v7 ⟨rfl, p7⟩; have y7 := y6.trans (p7.mono y6.size))
      refine hK.out _ _ ?_ (fun hS => ?_)
      · exact hS.below p7
      clear hK K
      refine wpAnyH_take_at (i := 22) (some 38) (v := ?_) rfl rfl (by as_aux_lemma => kernel_rfl) (by as_aux_lemma => kernel_rfl) (by as_aux_lemma => kernel_rfl) (fun _ _ _ h => h) (Or.inl ⟨by kernel_rfl, ?_⟩) hS ?_
      rotate_left
      · intro w hSw; have c0 := cell_heap (j := 0) hSw; simp only [List.getElem?_toArray, List.getElem?_cons_zero] at c0; go_simp
        first | done | with_reducible rfl
      skip
      refine wpAnyH_take_at (i := 23) (some 6) (v := ?_) rfl rfl (by as_aux_lemma => kernel_rfl) (by as_aux_lemma => kernel_rfl) (by as_aux_lemma => kernel_rfl) (fun _ _ _ h => h) (Or.inl ⟨by kernel_rfl, ?_⟩) hS ?_
      rotate_left
      · intro w hSw; have c0 := cell_heap (j := 0) hSw; simp only [List.getElem?_toArray, List.getElem?_cons_zero] at c0; go_simp
        first | done | with_reducible rfl
      skip
      refine wpAnyH_done (by kernel_rfl) ?_ _
      clear hS m2 b2
      go_simp
      go_wp2
      go_ret
      exact ⟨rfl, y7⟩
    · rw [decide_eq_false hP] at HP1
      clear hP
      go_wp2_with (go_at_call 14; refine HP1.out.mono ?_; rintro e w2 ⟨rfl, q2⟩; refine Hid.out ?_)
      refine Lib.hid ?_
      have b2 := b1.trans (q2.mono b1.size)
      have HW3 := Lib.hid (HW.out w2 b2)
      go_wp2_with (go_at_call 20; refine HW3.out.mono ?_; rintro e w5 ⟨rfl, q5⟩)
      go_ret
      exact ⟨rfl, b2.trans (q5.mono b2.size)⟩
  · have HLt := Lib.hid hL
    clear hA hm0 hl hls okl hps htab hL
    go_enter Tryd.func6, Tryd.ntmps6
    go_wp2_with (go_at_call 17; refine HL.out.mono ?_; rintro e w1 ⟨ht, q1⟩; obtain rfl := tells_no ht HLt.out; clear ht; refine Hid.out ?_)
    refine Lib.hid ?_
    have b1 := HB0.out.trans (q1.mono HB0.out.size)
    have HW3 := Lib.hid (HW.out w1 b1)
    go_wp2_with (go_at_call 20; refine HW3.out.mono ?_; rintro e w5 ⟨rfl, q5⟩)
    go_ret
    exact ⟨rfl, b1.trans (q5.mono b1.size)⟩

end Go.Proofs.YtbkejafjlapmnaaDoor
