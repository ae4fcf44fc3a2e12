/-
  By what an alert is muted, plainly, and as Muter and Muted of package inhibit tell it; whether rules and labels are light; the closed case of every statement of layer 6. Arguments of layer 6, opened: a rule, lists of labels. The closed case of every statement of layer 6: it answers true, whatever else lies in memory.
-/
import Derived.Test.YthaimnmbcbhioabDoorI1
namespace Go.Proofs.YthaimnmbcbhioabDoor
open Go.ChangeAt Go.ChangeShapes Go.Deep Go.RowKit Go.Shelf Go.WideShapes

/-- Labels, and where they lie. -/
structure Lb where
  a : Option Addr
  c : Nat
  ps : List Pr
/-- Lists of labels lie at an address. -/
def LbsAt (w : World) (a : Option Addr) (l : List Lb) : Prop :=
  0 < l.length → ∃ b o, a = some ⟨b, o, none⟩ ∧ b < w.heap.size ∧ ∀ i (hi : i < l.length), w.cell? ⟨b, o + i, none⟩ = some (.slice l[i].a l[i].ps.length l[i].c) ∧ PairsAt w l[i].a l[i].ps
theorem LbsAt.below {w w' : World} {a : Option Addr} {l : List Lb} {B : Nat} (h : LbsAt w a l) (hb : Below B w w') (hB : w.heap.size ≤ B) : LbsAt w' a l := fun hn => by
  obtain ⟨b, o, rfl, hbl, hc⟩ := h hn
  refine ⟨b, o, rfl, Nat.lt_of_lt_of_le hbl hb.size, fun i hi => ⟨?_, (hc i hi).2.below hb hB⟩⟩
  rw [hb.cell (p := ⟨b, o + i, none⟩) (Nat.lt_of_lt_of_le hbl hB)]
  exact (hc i hi).1
theorem LbsAt.mem {w : World} {a : Option Addr} {l : List Lb} (h : LbsAt w a l) {x : Lb} (hx : x ∈ l) : PairsAt w x.a x.ps := by
  obtain ⟨i, hi, rfl⟩ := List.getElem_of_mem hx
  obtain ⟨b, o, -, -, hc⟩ := h (by omega)
  exact (hc i hi).2
abbrev LbOk (x : Lb) : Prop := x.ps.length ≤ 9223372036854775807 ∧ ∀ p ∈ x.ps, p.2.size ≤ 9223372036854775807

/-- By what an alert is muted: the first rule's place, and the first one's by that. -/
def mutI (p : Rl → Lb → Bool) (fs : List Lb) : List Rl → Nat → Int × Int
  | [], _ => (-1, -1)
  | r :: l, n => if 0 ≤ hitI (p r) fs 0 then ((n : Int), hitI (p r) fs 0) else mutI p fs l (n + 1)
theorem mut_skip (p : Rl → Lb → Bool) (fs : List Lb) : ∀ (l : List Rl) (n k : Nat), k ≤ l.length → (∀ j (_ : j < k) (hj : j < l.length), ¬ 0 ≤ hitI (p l[j]) fs 0) → mutI p fs l n = mutI p fs (l.drop k) (n + k)
  | l, n, 0, _, _ => by simp
  | [], n, k + 1, hk, _ => by simp at hk
  | x :: l, n, k + 1, hk, h => by
    have h0 : ¬ 0 ≤ hitI (p x) fs 0 := h 0 (by omega) (by simp)
    have ih := mut_skip p fs l (n + 1) k (by simpa using hk) fun j hj hl => h (j + 1) (by omega) (by simpa using hl)
    rw [mutI, if_neg h0, ih, List.drop_succ_cons, show n + 1 + k = n + (k + 1) by omega]
theorem mut_at {p : Rl → Lb → Bool} {fs : List Lb} {l : List Rl} {k : Nat} (hk : k < l.length) (h : ∀ j (_ : j < k) (hj : j < l.length), ¬ 0 ≤ hitI (p l[j]) fs 0) (e : 0 ≤ hitI (p l[k]) fs 0) : mutI p fs l 0 = ((k : Int), hitI (p l[k]) fs 0) := by
  rw [mut_skip p fs l 0 k (by omega) h, List.drop_eq_getElem_cons hk, mutI, if_pos e, Nat.zero_add]
theorem mut_no {p : Rl → Lb → Bool} {fs : List Lb} {l : List Rl} (h : ∀ j (_ : j < l.length) (hj : j < l.length), ¬ 0 ≤ hitI (p l[j]) fs 0) : mutI p fs l 0 = (-1, -1) := by
  rw [mut_skip p fs l 0 l.length (Nat.le_refl _) h, List.drop_length, mutI]
theorem mut_pos {p : Rl → Lb → Bool} {fs : List Lb} : ∀ {l : List Rl} {n : Nat}, 0 ≤ (mutI p fs l n).1 ↔ ∃ r ∈ l, ∃ x ∈ fs, p r x = true
  | [], n => by simp [mutI]
  | r :: l, n => by
    rw [mutI]
    by_cases h : 0 ≤ hitI (p r) fs 0
    · rw [if_pos h]
      exact ⟨fun _ => ⟨r, by simp, hit_pos.1 h⟩, fun _ => by simp⟩
    · rw [if_neg h, mut_pos]
      constructor
      · rintro ⟨y, hy, e⟩; exact ⟨y, List.mem_cons_of_mem _ hy, e⟩
      · rintro ⟨y, hy, e⟩
        rcases List.mem_cons.1 hy with rfl | hy
        · exact absurd (hit_pos.2 e) h
        · exact ⟨y, hy, e⟩
/-- What an alert is muted by, as a function. -/
def PBy (qs : List Pr) (p : Rl → Lb → Bool) : Prop := ∀ r x, p r x = true ↔ byP r x.ps qs
theorem pby_ex (qs : List Pr) : ∃ p, PBy qs p := ⟨fun r x => @decide (byP r x.ps qs) (Classical.propDecidable _), fun r x => by simp⟩
theorem tells_bool {A : Prop} {e : Ending} (h : Tells A e) {b : Bool} (hb : b = true ↔ A) : e = .returned (.bool b) := by
  obtain ⟨c, rfl, hc⟩ := h
  have : c = b := by cases c <;> cases b <;> simp_all
  rw [this]

/-- Whether an alert is muted. -/
def mutedP (rs : List Rl) (fs : List Lb) (qs : List Pr) : Prop := ∃ r ∈ rs, ∃ x ∈ fs, byP r x.ps qs
theorem muted_iff {rs : List Rl} {fs : List Lb} {qs : List Pr} {p : Rl → Lb → Bool} (h : PBy qs p) : 0 ≤ (mutI p fs rs 0).1 ↔ mutedP rs fs qs := by
  rw [mut_pos]
  unfold mutedP
  constructor
  · rintro ⟨r, hr, x, hx, e⟩; exact ⟨r, hr, x, hx, (h r x).1 e⟩
  · rintro ⟨r, hr, x, hx, e⟩; exact ⟨r, hr, x, hx, (h r x).2 e⟩

/-- Rules and labels are light. -/
def LightI (rs : List Rl) (fs : List Lb) : Prop := rs.length ≤ 12 ∧ fs.length ≤ 40 ∧ (∀ i (hi : i < fs.length), LightP 0 fs[i].ps) ∧ ∀ i (hi : i < rs.length), rs[i].src.length ≤ 12 ∧ rs[i].tgt.length ≤ 12 ∧ rs[i].eqs.length ≤ 40

set_option maxRecDepth 20000 in
set_option maxHeartbeats 4000000 in
theorem vLight_any (b : Option Addr) (d : Nat) (ls : List Rl) (a : Option Addr) (c : Nat) (l : List Lb) (w : World) (hls : RlsAt w b ls) (hl : LbsAt w a l) (hm : ls.length ≤ 9223372036854775807) (hn : l.length ≤ 9223372036854775807) (okl : ∀ x ∈ l, x.ps.length ≤ 9223372036854775807) :
    Calls Tryd.prog 4 #[.slice b ls.length d, .slice a l.length c] w fun e w' => Tells (LightI ls l) e ∧ Below w.heap.size w w' := by
  have HNo : Hid (¬ LightI ls l → Tells (LightI ls l) (.returned (.bool false))) := Lib.hid fun h => ⟨false, rfl, by simp [h]⟩
  have HYes : Hid (LightI ls l → Tells (LightI ls l) (.returned (.bool true))) := Lib.hid fun h => ⟨true, rfl, by simp [h]⟩
  have HX1 : Hid (LightI ls l → ls.length ≤ 12 ∧ l.length ≤ 40) := Lib.hid fun h => ⟨h.1, h.2.1⟩
  have HX2 : Hid (LightI ls l → ∀ i (hi : i < l.length), LightP 0 l[i].ps) := Lib.hid fun h => h.2.2.1
  have HX3 : Hid (LightI ls l → ∀ i (hi : i < ls.length), ls[i].src.length ≤ 12 ∧ ls[i].tgt.length ≤ 12 ∧ ls[i].eqs.length ≤ 40) := Lib.hid fun h => h.2.2.2
  have HOk := Lib.hid okl
  by_cases h16 : 12 < ls.length
  · have h16' : (12 : Int) < (ls.length : Int) := by omega
    have HT := Lib.hid (HNo.out fun h => by have := (HX1.out h).1; omega)
    generalize LightI ls l = P at *
    clear hl hls okl HX2 HX3 HOk
    go_enter Tryd.func4, Tryd.ntmps4
    go_wp2
    go_ret
    exact ⟨HT.out, Below.refl _ _⟩
  have h16' : ¬ (12 : Int) < (ls.length : Int) := by omega
  by_cases h8 : 40 < l.length
  · have h8' : (40 : Int) < (l.length : Int) := by omega
    have HT := Lib.hid (HNo.out fun h => by have := (HX1.out h).2; omega)
    generalize LightI ls l = P at *
    clear hl hls okl HX2 HX3 HOk
    go_enter Tryd.func4, Tryd.ntmps4
    go_wp2
    go_ret
    exact ⟨HT.out, Below.refl _ _⟩
  have h8' : ¬ (40 : Int) < (l.length : Int) := by omega
  have HAll : Hid ((∀ i (hi : i < l.length), LightP 0 l[i].ps) → (∀ i (hi : i < ls.length), ls[i].src.length ≤ 12 ∧ ls[i].tgt.length ≤ 12 ∧ ls[i].eqs.length ≤ 40) → LightI ls l) := Lib.hid fun h1 h2 => ⟨by omega, by omega, h1, h2⟩
  have HL := Lib.hid hl
  have HLs := Lib.hid hls
  generalize LightI ls l = P at *
  clear hl hls okl HX1
  go_enter Tryd.func4, Tryd.ntmps4
  go_wp2
  go_loopw [5] (fun i wr => ∃ k : Nat, k ≤ l.length ∧ i = .int .i64 k ∧ Hid (Below w.heap.size w wr) ∧ Hid (∀ j (_ : j < k) (hj : j < l.length), LightP 0 l[j].ps)) (fun i _ => l.length - (intOf i).toNat)
  case atStart => exact ⟨0, Nat.zero_le _, rfl, Lib.hid (Below.refl _ _), Lib.hid fun j hj => absurd hj (Nat.not_lt_zero _)⟩
  case round =>
    obtain ⟨k, hk, rfl, HB, HA⟩ := hrel
    by_cases hlt : k < l.length
    · have hkl : (k : Int) < (l.length : Int) := by omega
      obtain ⟨rb, ro, rfl, hrb, hr⟩ := HL.out (by omega)
      obtain ⟨hr1, hr2⟩ := hr k hlt
      have c1 : wr.cell? ⟨rb, ro + k, none⟩ = some (.slice l[k].a l[k].ps.length l[k].c) := (HB.out.cell (p := ⟨rb, ro + k, none⟩) hrb).trans hr1
      have HC := Lib.hid (nLight_any none l[k].a 0 0 l[k].c l[k].ps wr (hr2.below HB.out (Nat.le_refl _)) (by omega) (HOk.out _ (List.getElem_mem hlt)))
      clear hr hr1 hr2
      have HN1 : Hid (¬ LightP 0 l[k].ps → ¬ P) := Lib.hid fun h hp => h (HX2.out hp k hlt)
      have HA2 : Hid (LightP 0 l[k].ps → ∀ j (_ : j < k + 1) (hj : j < l.length), LightP 0 l[j].ps) := Lib.hid fun h0 j hj hl => by
        by_cases e : j = k
        · subst e; exact h0
        · exact HA.out j (by omega) hl
      obtain ⟨Bv, HBv⟩ : ∃ Bv : Bool, Hid (decide (LightP 0 l[k].ps) = Bv) := ⟨_, Lib.hid rfl⟩
      rw [HBv.out] at HC
      have HD1 : Hid (Bv = true → LightP 0 l[k].ps) := Lib.hid fun e => of_decide_eq_true (HBv.out.trans e)
      have HD2 : Hid (Bv = false → ¬ LightP 0 l[k].ps) := Lib.hid fun e => of_decide_eq_false (HBv.out.trans e)
      clear HBv
      generalize LightP 0 l[k].ps = Q at *
      generalize l[k].a = x1 at *
      generalize l[k].c = x3 at *
      generalize l[k].ps.length = x2 at *
      clear HA
      cases Bv with
      | false =>
        have HT := Lib.hid (HNo.out (HN1.out (HD2.out rfl)))
        clear HN1 HA2 HX2 HX3 HAll HD1 HD2
        go_wp2_with (go_at_call 8; refine HC.out.mono ?_; rintro e w' ⟨rfl, hb'⟩)
        go_ret
        exact ⟨HT.out, HB.out.trans (hb'.mono HB.out.size)⟩
      | true =>
        have HA3 := Lib.hid (HA2.out (HD1.out rfl))
        clear HN1 HA2 HD1 HD2
        go_wp2_with (go_at_call 8; refine HC.out.mono ?_; rintro e w' ⟨rfl, hb'⟩)
        go_roundw
        case rel => exact ⟨k + 1, by omega, by go_num, Lib.hid (HB.out.trans (hb'.mono HB.out.size)), HA3⟩
        case measure => simp [intOf]; omega
    · obtain rfl : k = l.length := by omega
      have HAl := Lib.hid (fun h2 => HAll.out (fun i hi => HA.out i hi hi) h2)
      clear HA HAll HX2 HL
      go_wp2
      go_loopw [6] (fun i wr => ∃ k : Nat, k ≤ ls.length ∧ i = .int .i64 k ∧ Hid (Below w.heap.size w wr) ∧ Hid (∀ j (_ : j < k) (hj : j < ls.length), ls[j].src.length ≤ 12 ∧ ls[j].tgt.length ≤ 12 ∧ ls[j].eqs.length ≤ 40)) (fun i _ => ls.length - (intOf i).toNat)
      case atStart => exact ⟨0, Nat.zero_le _, rfl, HB, Lib.hid fun j hj => absurd hj (Nat.not_lt_zero _)⟩
      case round =>
        clear HB
        obtain ⟨k, hk2, rfl, HB, HA⟩ := hrel
        by_cases hlt2 : k < ls.length
        · have hkl : (k : Int) < (ls.length : Int) := by omega
          obtain ⟨rb, ro, rfl, hrb, hr⟩ := HLs.out (by omega)
          obtain ⟨hr1, -, -, -⟩ := hr k hlt2
          have c0 : wr.cell? ⟨rb, ro + k * 3, none⟩ = some (.slice ls[k].sa ls[k].src.length ls[k].sc) := (HB.out.cell (p := ⟨rb, ro + k * 3, none⟩) hrb).trans (hr1 0 _ rfl)
          have c1 : wr.cell? ⟨rb, ro + k * 3 + 1, none⟩ = some (.slice ls[k].ta ls[k].tgt.length ls[k].tc) := (HB.out.cell (p := ⟨rb, ro + k * 3 + 1, none⟩) hrb).trans (hr1 1 _ rfl)
          have c2 : wr.cell? ⟨rb, ro + k * 3 + 2, none⟩ = some (.slice ls[k].ea ls[k].eqs.length ls[k].ec) := (HB.out.cell (p := ⟨rb, ro + k * 3 + 2, none⟩) hrb).trans (hr1 2 _ rfl)
          clear hr hr1
          have HN1 : Hid (¬ (ls[k].src.length ≤ 12 ∧ ls[k].tgt.length ≤ 12 ∧ ls[k].eqs.length ≤ 40) → ¬ P) := Lib.hid fun h hp => h (HX3.out hp k hlt2)
          have HA2 : Hid (ls[k].src.length ≤ 12 ∧ ls[k].tgt.length ≤ 12 ∧ ls[k].eqs.length ≤ 40 → ∀ j (_ : j < k + 1) (hj : j < ls.length), ls[j].src.length ≤ 12 ∧ ls[j].tgt.length ≤ 12 ∧ ls[j].eqs.length ≤ 40) := Lib.hid fun h0 j hj hl => by
            by_cases e : j = k
            · subst e; exact h0
            · exact HA.out j (by omega) hl
          generalize ls[k].sa = x1 at *
          generalize ls[k].sc = x3 at *
          generalize ls[k].ta = x5 at *
          generalize ls[k].tc = x7 at *
          generalize ls[k].ea = x8 at *
          generalize ls[k].ec = x9 at *
          generalize ls[k].src.length = y1 at *
          generalize ls[k].tgt.length = y2 at *
          generalize ls[k].eqs.length = y3 at *
          clear HA
          by_cases g1 : 12 < y1
          · have g1' : (12 : Int) < (y1 : Int) := by omega
            have HT := Lib.hid (HNo.out (HN1.out fun h => by omega))
            clear HN1 HA2 HX3 HAl
            go_wp2
            go_ret
            exact ⟨HT.out, HB.out⟩
          have g1' : ¬ (12 : Int) < (y1 : Int) := by omega
          by_cases g2 : 12 < y2
          · have g2' : (12 : Int) < (y2 : Int) := by omega
            have HT := Lib.hid (HNo.out (HN1.out fun h => by omega))
            clear HN1 HA2 HX3 HAl
            go_wp2
            go_ret
            exact ⟨HT.out, HB.out⟩
          have g2' : ¬ (12 : Int) < (y2 : Int) := by omega
          by_cases g3 : 40 < y3
          · have g3' : (40 : Int) < (y3 : Int) := by omega
            have HT := Lib.hid (HNo.out (HN1.out fun h => by omega))
            clear HN1 HA2 HX3 HAl
            go_wp2
            go_ret
            exact ⟨HT.out, HB.out⟩
          · have g3' : ¬ (40 : Int) < (y3 : Int) := by omega
            have HA3 := Lib.hid (HA2.out ⟨by omega, by omega, by omega⟩)
            clear HN1 HA2
            go_wp2
            go_roundw
            case rel => exact ⟨k + 1, by omega, by go_num, HB, HA3⟩
            case measure => simp [intOf]; omega
        · obtain rfl : k = ls.length := by omega
          have HT := Lib.hid (HYes.out (HAl.out fun i hi => HA.out i hi hi))
          clear HA HAl HX3
          go_wp2
          go_ret
          exact ⟨HT.out, HB.out⟩


section
variable {H : Type} {enc : TypeId × Value → H} {W : World} {base : Nat} {sp : Nat → Bool} {held : Bool} {fuel : Nat} {x : DataW H × List MemPlace}

theorem open_cap {t e : TypeId} {a : Option Addr} {len cap : Nat} (ht : Tryd.prog.underlying t = some (.slice e)) (h : DataW.trod enc Tryd.prog W base sp held fuel t [.slice a len cap] = some x) : len ≤ cap ∧ (a = none → cap = 0) := by
  rcases open_slice ht h with ⟨hcs, -⟩ | ⟨q, len', cap', m, n, D, Pl, hcs, hb, hl, hm, hmm, -, hc⟩
  · simp only [List.cons.injEq, Value.slice.injEq, and_true] at hcs
    obtain ⟨rfl, rfl, rfl⟩ := hcs
    exact ⟨Nat.le_refl _, fun _ => rfl⟩
  · simp only [List.cons.injEq, Value.slice.injEq, and_true] at hcs
    obtain ⟨rfl, rfl, rfl⟩ := hcs
    exact ⟨hl, fun h => by cases h⟩

set_option maxRecDepth 20000 in
theorem open_ruleV {base' : Nat} {r : Reach} {v : Value} (hv : Value.okWide Tryd.prog W r base' 25 v) (h : DataW.trod enc Tryd.prog W base sp held fuel 25 v.cells.toList = some x) :
    ∃ r : Rl, v = .agg #[.slice r.sa r.src.length r.sc, .slice r.ta r.tgt.length r.tc, .slice r.ea r.eqs.length r.ec] ∧ RlAt W r ∧ RlOk r := by
  obtain ⟨cs, rfl, -⟩ := okWide_struct Tryd.underlying25 hv
  obtain ⟨r, h1, h2, h3⟩ := open_rule (cs := cs.toList) (by simpa [Value.cells] using h)
  refine ⟨r, ?_, h2, h3⟩
  rw [← Array.toList_inj.1 (show cs.toList = #[Value.slice r.sa r.src.length r.sc, .slice r.ta r.tgt.length r.tc, .slice r.ea r.eqs.length r.ec].toList from h1)]

theorem cellsPs1 : Tryd.prog.cellsOf 26 = 1 := by kernel_rfl
set_option maxRecDepth 20000 in
theorem open_pairss {cs : List Value} (h : DataW.trod enc Tryd.prog W base sp held fuel 30 cs = some x) :
    ∃ (a : Option Addr) (c : Nat) (l : List Lb), cs = [.slice a l.length c] ∧ LbsAt W a l ∧ l.length ≤ maxLen ∧ ∀ y ∈ l, LbOk y := by
  rcases open_slice Tryd.underlying30 h with ⟨rfl, -⟩ | ⟨q, len, cap, m, n, D, Pl, rfl, hb, hl, hm, hmm, -, hc⟩
  · exact ⟨none, 0, [], rfl, fun hi => absurd hi (by simp), Nat.zero_le _, fun p hp => by cases hp⟩
  · rw [cellsPs1] at hc
    haveI : Inhabited Lb := ⟨⟨none, 0, []⟩⟩
    have each : ∀ i, i < m → ∃ y : Lb, W.cell? ((q.add (i * 1)).add 0) = some (.slice y.a y.ps.length y.c) ∧ PairsAt W y.a y.ps ∧ LbOk y := fun i hi => by
      obtain ⟨cs', h1, h2⟩ := hc i hi
      obtain ⟨-, -, hcell⟩ := World.cells?_some h1
      obtain ⟨a, len, cap, rfl⟩ := slice_cs Tryd.underlying26 h2
      obtain ⟨ps, rfl, k1, k2, k3, -⟩ := open_pairs h2
      exact ⟨⟨a, cap, ps⟩, hcell 0 (by omega), k1, k2, fun p hp => (k3 p hp).2⟩
    obtain ⟨f, hf⟩ := choose_lt each
    have hlm : len ≤ m := by split at hmm <;> omega
    refine ⟨some q, cap, (List.range len).map f, by simp, fun hn => ?_, by simp; omega, fun y hy => ?_⟩
    · simp only [List.length_map, List.length_range] at hn
      obtain ⟨hc0, -⟩ := hf 0 (by omega)
      obtain ⟨b, o, s⟩ := q
      obtain rfl : s = none := by simpa [Addr.add] using World.cell?_spot hc0
      refine ⟨b, o, rfl, ?_, fun i hi => ?_⟩
      · have := World.block_lt_of_cell? W _ hc0
        simpa [Addr.add] using this
      · simp only [List.length_map, List.length_range] at hi
        obtain ⟨c0, c1, -⟩ := hf i (by omega)
        rw [Go.WideShapes.add_plain, Go.WideShapes.add_plain] at c0
        simp only [List.getElem_map, List.getElem_range]
        exact ⟨by simpa using c0, c1⟩
    · obtain ⟨i, hi, rfl⟩ := List.mem_map.1 hy
      exact (hf i (by have := List.mem_range.1 hi; omega)).2.2
end

theorem iErr0 (x : UInt8) : mErr (⟨#[97]⟩, 0, ⟨#[x]⟩) = 0 := by
  unfold mErr
  rw [if_neg (Classical.not_not.2 nameA)]
  rfl
def psO : List Pr := [(⟨#[97]⟩, ⟨#[49]⟩), (⟨#[106, 111, 98]⟩, ⟨#[120]⟩)]
def qsO : List Pr := [(⟨#[97]⟩, ⟨#[50]⟩), (⟨#[106, 111, 98]⟩, ⟨#[120]⟩)]
def qsN : List Pr := [(⟨#[97]⟩, ⟨#[50]⟩)]
def rlO (B : Nat) : Rl := ⟨some ⟨B, 0, none⟩, 1, [(⟨#[97]⟩, 0, ⟨#[49]⟩)], some ⟨B + 1, 0, none⟩, 1, [(⟨#[97]⟩, 0, ⟨#[50]⟩)], some ⟨B + 1 + 1, 0, none⟩, 1, [⟨#[106, 111, 98]⟩]⟩
theorem gvO1 : getV psO (ByteArray.mk #[97]).toList = ⟨#[49]⟩ := by unfold getV psO nm; simp [ByteArray.toList_eq]
theorem gvO2 : getV qsO (ByteArray.mk #[97]).toList = ⟨#[50]⟩ := by unfold getV qsO nm; simp [ByteArray.toList_eq]
theorem gvO3 : getV psO (ByteArray.mk #[106, 111, 98]).toList = ⟨#[120]⟩ := by unfold getV psO nm; simp [ByteArray.toList_eq]
theorem gvO4 : getV qsO (ByteArray.mk #[106, 111, 98]).toList = ⟨#[120]⟩ := by unfold getV qsO nm; simp [ByteArray.toList_eq]
theorem gvO5 : getV qsN (ByteArray.mk #[106, 111, 98]).toList = ⟨#[]⟩ := by unfold getV qsN nm; simp [ByteArray.toList_eq]
theorem askO1 : mAsk psO (⟨#[97]⟩, 0, ⟨#[49]⟩) := ⟨iErr0 49, .inl ⟨rfl, by rw [gvO1]⟩⟩
theorem askO2 : mAsk qsO (⟨#[97]⟩, 0, ⟨#[50]⟩) := ⟨iErr0 50, .inl ⟨rfl, by rw [gvO2]⟩⟩
theorem askO3 : ¬ mAsk psO (⟨#[97]⟩, 0, ⟨#[50]⟩) := by
  rintro ⟨-, ⟨-, h⟩ | ⟨h, -⟩ | ⟨h, -⟩ | ⟨h, -⟩⟩
  · rw [gvO1, ByteArray.toList_eq, ByteArray.toList_eq] at h
    revert h
    decide
  · cases h
  · cases h
  · cases h
theorem iby1 (B : Nat) : byP (rlO B) psO qsO := by
  refine ⟨fun s hs => ?_, fun m hm => ?_, fun m hm => ?_, fun h => askO3 (h.1 _ (List.mem_singleton.2 rfl))⟩
  · rw [List.mem_singleton.1 hs, gvO3, gvO4]
  · rw [List.mem_singleton.1 hm]; exact askO1
  · rw [List.mem_singleton.1 hm]; exact askO2
theorem iby2 (B : Nat) : ¬ byP (rlO B) psO qsN := by
  rintro ⟨h, -⟩
  have := h ⟨#[106, 111, 98]⟩ (List.mem_singleton.2 rfl)
  rw [gvO3, gvO5] at this
  revert this
  decide
theorem rlO_ok (B : Nat) : RlOk (rlO B) := by
  have k : maxLen = 9223372036854775807 := rfl
  have one : ∀ (m : Mt), m.1.size ≤ 1 → m.2.2.size ≤ 1 → MtsOk [m] := fun m h1 h2 => ⟨by simp; omega, fun x hx => by rw [List.mem_singleton.1 hx]; omega⟩
  exact ⟨one _ (by decide) (by decide), one _ (by decide) (by decide), ⟨by show (1 : Nat) ≤ maxLen; rw [k]; decide, fun s hs => by rw [List.mem_singleton.1 hs, k]; decide⟩, Nat.le_refl _⟩
theorem mts_one {w : World} {B : Nat} {n v : ByteArray} {o : Nat} (h : w.heap[B]? = some (.cells #[.string n, .int .u8 (o : Int), .string v] 38 (0, 0))) : MtsAt w (some ⟨B, 0, none⟩) [(n, o, v)] := fun _ => ⟨B, 0, rfl, lt_of_block h, fun i hi => by
  obtain rfl : i = 0 := by simpa using hi
  exact ⟨cell_heap h, cell_heap h, cell_heap h⟩⟩
theorem strs_one {w : World} {B : Nat} {n : ByteArray} (h : w.heap[B]? = some (.cells #[.string n] 9 (0, 0))) : StrsAt w (some ⟨B, 0, none⟩) [n] := fun _ => ⟨B, 0, rfl, lt_of_block h, fun i hi => by
  obtain rfl : i = 0 := by simpa using hi
  exact cell_heap h⟩
theorem pairs_one {w : World} {B : Nat} {n v : ByteArray} (h : w.heap[B]? = some (.cells #[.string n, .string v] 40 (0, 0))) : PairsAt w (some ⟨B, 0, none⟩) [(n, v)] := fun _ => ⟨B, 0, rfl, fun i hi => by
  obtain rfl : i = 0 := by simpa using hi
  exact ⟨cell_heap h, cell_heap h⟩⟩
theorem pairs_two {w : World} {B : Nat} {n v n' v' : ByteArray} (h : w.heap[B]? = some (.cells #[.string n, .string v, .string n', .string v'] 40 (0, 0))) : PairsAt w (some ⟨B, 0, none⟩) [(n, v), (n', v')] := fun _ => ⟨B, 0, rfl, fun i hi => by
  rcases (by simp at hi; omega : i = 0 ∨ i = 1) with rfl | rfl
  · exact ⟨cell_heap h, cell_heap h⟩
  · exact ⟨cell_heap h, cell_heap h⟩⟩

set_option maxRecDepth 20000 in
set_option maxHeartbeats 4000000 in
theorem iawake_any (w : World) (htab : TabW w) : Calls Tryd.prog 5 #[] w fun e w' => e = .returned (.bool true) ∧ Below w.heap.size w w' := by
  have htl := htab.lt
  obtain ⟨w1, hw1⟩ : ∃ x, x = w.alloc (.cells #[.string ⟨#[97]⟩, .int .u8 0, .string ⟨#[49]⟩] 38) := ⟨_, rfl⟩
  obtain ⟨w2, hw2⟩ : ∃ x, x = w1.alloc (.cells #[.string ⟨#[97]⟩, .int .u8 0, .string ⟨#[50]⟩] 38) := ⟨_, rfl⟩
  obtain ⟨w3, hw3⟩ : ∃ x, x = w2.alloc (.cells #[.string ⟨#[106, 111, 98]⟩] 9) := ⟨_, rfl⟩
  obtain ⟨w4, hw4⟩ : ∃ x, x = w3.alloc (.cells #[.slice (some ⟨w.heap.size, 0, none⟩) 1 1, .slice (some ⟨w.heap.size + 1, 0, none⟩) 1 1, .slice (some ⟨w.heap.size + 1 + 1, 0, none⟩) 1 1] 25) := ⟨_, rfl⟩
  obtain ⟨w5, hw5⟩ : ∃ x, x = w4.alloc (.cells #[.string ⟨#[97]⟩, .string ⟨#[49]⟩, .string ⟨#[106, 111, 98]⟩, .string ⟨#[120]⟩] 40) := ⟨_, rfl⟩
  obtain ⟨w6, hw6⟩ : ∃ x, x = w5.alloc (.cells #[.string ⟨#[97]⟩, .string ⟨#[50]⟩, .string ⟨#[106, 111, 98]⟩, .string ⟨#[120]⟩] 40) := ⟨_, rfl⟩
  have s1 : w1.heap.size = w.heap.size + 1 := by rw [hw1]; simp
  have s2 : w2.heap.size = w.heap.size + 1 + 1 := by rw [hw2]; simp [s1]
  have s3 : w3.heap.size = w.heap.size + 1 + 1 + 1 := by rw [hw3]; simp [s2]
  have s4 : w4.heap.size = w.heap.size + 1 + 1 + 1 + 1 := by rw [hw4]; simp [s3]
  have s5 : w5.heap.size = w.heap.size + 1 + 1 + 1 + 1 + 1 := by rw [hw5]; simp [s4]
  have d1 : Below w.heap.size w w1 := by rw [hw1]; exact (Below.refl w.heap.size w).alloc (Nat.le_refl _) _
  have d2 : Below w1.heap.size w1 w2 := by rw [hw2]; exact (Below.refl w1.heap.size w1).alloc (Nat.le_refl _) _
  have d3 : Below w2.heap.size w2 w3 := by rw [hw3]; exact (Below.refl w2.heap.size w2).alloc (Nat.le_refl _) _
  have d4 : Below w3.heap.size w3 w4 := by rw [hw4]; exact (Below.refl w3.heap.size w3).alloc (Nat.le_refl _) _
  have d5 : Below w4.heap.size w4 w5 := by rw [hw5]; exact (Below.refl w4.heap.size w4).alloc (Nat.le_refl _) _
  have d6 : Below w5.heap.size w5 w6 := by rw [hw6]; exact (Below.refl w5.heap.size w5).alloc (Nat.le_refl _) _
  have m1 : MtsAt w1 (some ⟨w.heap.size, 0, none⟩) [(⟨#[97]⟩, 0, ⟨#[49]⟩)] := by rw [hw1]; exact mts_one (heap_new w _)
  have m2 : MtsAt w2 (some ⟨w.heap.size + 1, 0, none⟩) [(⟨#[97]⟩, 0, ⟨#[50]⟩)] := by rw [hw2, ← s1]; exact mts_one (heap_new w1 _)
  have m3 : StrsAt w3 (some ⟨w.heap.size + 1 + 1, 0, none⟩) [⟨#[106, 111, 98]⟩] := by rw [hw3, ← s2]; exact strs_one (heap_new w2 _)
  have d23 := d2.trans (d3.mono d2.size)
  have r3 : RlAt w3 (rlO w.heap.size) := ⟨m1.below d23 (Nat.le_refl _), m2.below d3 (Nat.le_refl _), m3⟩
  have d46 := (d4.trans (d5.mono d4.size)).trans (d6.mono (Nat.le_trans d4.size d5.size))
  have r6 : RlAt w6 (rlO w.heap.size) := r3.below d46 (Nat.le_refl _)
  have k4 : RlBlk w4 (w.heap.size + 1 + 1 + 1) (rlO w.heap.size) := by rw [hw4, ← s3]; exact heap_new w3 _
  have d56 := d5.trans (d6.mono d5.size)
  have k6 := k4.below d56
  have p5 : PairsAt w5 (some ⟨w.heap.size + 1 + 1 + 1 + 1, 0, none⟩) psO := by rw [hw5, ← s4]; exact pairs_two (heap_new w4 _)
  have p6 := p5.below d6 (Nat.le_refl _)
  have q6 : PairsAt w6 (some ⟨w.heap.size + 1 + 1 + 1 + 1 + 1, 0, none⟩) qsO := by rw [hw6, ← s5]; exact pairs_two (heap_new w5 _)
  have e6 : Below w.heap.size w w6 := d1.trans ((d23.trans (d46.mono d23.size)).mono d1.size)
  have H1 := Lib.hid (iBy_any (rlO w.heap.size) (some ⟨w.heap.size + 1 + 1 + 1 + 1, 0, none⟩) 2 psO (some ⟨w.heap.size + 1 + 1 + 1 + 1 + 1, 0, none⟩) 2 qsO w6 (htab.on e6 htl) r6 (rlO_ok _) p6 q6 (by decide) (by decide) (by decide) (by decide))
  have H2 := Lib.hid (fun u (hb : Below w6.heap.size w6 u) (hq : PairsAt u (some ⟨u.heap.size - 1, 0, none⟩) qsN) => iBy_any (rlO w.heap.size) (some ⟨w.heap.size + 1 + 1 + 1 + 1, 0, none⟩) 2 psO (some ⟨u.heap.size - 1, 0, none⟩) 1 qsN u (htab.on (e6.trans (hb.mono e6.size)) htl) (r6.below hb (Nat.le_refl _)) (rlO_ok _) (p6.below hb (Nat.le_refl _)) hq (by decide) (by decide) (by decide) (by decide))
  have K6 := Lib.hid k6
  have E6 := Lib.hid e6
  have c0 : w6.cell? ⟨w.heap.size + 1 + 1 + 1, 0, none⟩ = some (.slice (some ⟨w.heap.size, 0, none⟩) 1 1) := k6.c0
  clear d1 d2 d3 d4 d5 d6 m1 m2 m3 r3 r6 k4 k6 p5 p6 q6 d23 d46 d56 e6 htab c0 s1 s2 s3 s4 s5
  rw [show (rlO w.heap.size).sa = some ⟨w.heap.size, 0, none⟩ from rfl, show (rlO w.heap.size).ta = some ⟨w.heap.size + 1, 0, none⟩ from rfl, show (rlO w.heap.size).ea = some ⟨w.heap.size + 1 + 1, 0, none⟩ from rfl, show (rlO w.heap.size).src.length = 1 from rfl, show (rlO w.heap.size).tgt.length = 1 from rfl, show (rlO w.heap.size).eqs.length = 1 from rfl, show (rlO w.heap.size).sc = 1 from rfl, show (rlO w.heap.size).tc = 1 from rfl, show (rlO w.heap.size).ec = 1 from rfl, show psO.length = 2 from rfl, show qsO.length = 2 from rfl] at H1
  simp only [show (rlO w.heap.size).sa = some ⟨w.heap.size, 0, none⟩ from rfl, show (rlO w.heap.size).ta = some ⟨w.heap.size + 1, 0, none⟩ from rfl, show (rlO w.heap.size).ea = some ⟨w.heap.size + 1 + 1, 0, none⟩ from rfl, show (rlO w.heap.size).src.length = 1 from rfl, show (rlO w.heap.size).tgt.length = 1 from rfl, show (rlO w.heap.size).eqs.length = 1 from rfl, show (rlO w.heap.size).sc = 1 from rfl, show (rlO w.heap.size).tc = 1 from rfl, show (rlO w.heap.size).ec = 1 from rfl, show psO.length = 2 from rfl, show qsN.length = 1 from rfl] at H2
  subst hw6 hw5 hw4 hw3 hw2 hw1
  go_enter Tryd.func5, Tryd.ntmps5
  go_wp2_with (go_at_call 6; refine H1.out.mono ?_; rintro e w7 ⟨ht, q7⟩; obtain rfl := tells_yes ht (iby1 _); clear ht; refine Hid.out ?_)
  refine Lib.hid ?_
  have k7 := K6.out.below q7
  have c0 : w7.cell? ⟨w.heap.size + 1 + 1 + 1, 0, none⟩ = some (.slice (some ⟨w.heap.size, 0, none⟩) 1 1) := k7.c0
  have c1 : w7.cell? ⟨w.heap.size + 1 + 1 + 1, 1, none⟩ = some (.slice (some ⟨w.heap.size + 1, 0, none⟩) 1 1) := k7.c1
  have c2 : w7.cell? ⟨w.heap.size + 1 + 1 + 1, 2, none⟩ = some (.slice (some ⟨w.heap.size + 1 + 1, 0, none⟩) 1 1) := k7.c2
  have d7 := (Below.refl w7.heap.size w7).alloc (Nat.le_refl _) (.cells #[.string ⟨#[97]⟩, .string ⟨#[50]⟩] 40)
  have p8 : PairsAt (w7.alloc (.cells #[.string ⟨#[97]⟩, .string ⟨#[50]⟩] 40)) (some ⟨w7.heap.size, 0, none⟩) qsN := pairs_one (heap_new w7 _)
  have s8 : (w7.alloc (.cells #[.string ⟨#[97]⟩, .string ⟨#[50]⟩] 40)).heap.size - 1 = w7.heap.size := by simp
  have H3 := H2.out (w7.alloc (.cells #[.string ⟨#[97]⟩, .string ⟨#[50]⟩] 40)) (q7.trans (d7.mono q7.size)) (by rw [s8]; exact p8)
  rw [s8] at H3
  have HH3 := Lib.hid H3
  have E8 := Lib.hid ((E6.out.trans (q7.mono E6.out.size)).trans (d7.mono (E6.out.trans (q7.mono E6.out.size)).size))
  clear H3 p8 d7 q7 k7 H1 H2 K6 E6 s8
  go_wp2_with (go_at_call 6; refine HH3.out.mono ?_; rintro e w9 ⟨ht, q9⟩; obtain rfl := tells_no ht (iby2 _); clear ht)
  go_ret
  exact ⟨rfl, E8.out.trans (q9.mono E8.out.size)⟩

end Go.Proofs.YthaimnmbcbhioabDoor
