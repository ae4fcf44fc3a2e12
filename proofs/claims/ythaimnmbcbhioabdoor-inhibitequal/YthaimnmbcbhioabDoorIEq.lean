/-
  The walk of InhibitEqual.
-/
import Derived.Test.YthaimnmbcbhioabDoorISelf
import Derived.Laws.OwnMore
import Derived.Laws.AppendOwnNone
namespace Go.Proofs.YthaimnmbcbhioabDoor
open Go.ChangeAt Go.ChangeShapes Go.Deep Go.RowKit Go.WideShapes

section
variable {H : Type} {enc : TypeId × Value → H} {W : World} {base : Nat} {sp : Nat → Bool} {held : Bool} {fuel : Nat} {x : DataW H × List MemPlace}
theorem open_rule_cap {r : Rl} (h : DataW.trod enc Tryd.prog W base sp held fuel 25 (encL r) = some x) : r.ea = none → r.ec = 0 := by
  obtain ⟨y0, y1, y2, n, -, hl, h0, h1, h2⟩ := trod_struct3 Tryd.underlying25 h
  simp [encL, cellsMts1, cellsStrs1] at h0 h1 h2
  exact (open_cap Tryd.underlying23 h2).2
set_option maxRecDepth 20000 in
theorem open_pairs2 {base' : Nat} {r : Reach} {v : Value} (hv : Value.okWide Tryd.prog W r base' 27 v) (h : DataW.trod enc Tryd.prog W base sp held fuel 27 v.cells.toList = some x) :
    ∃ x y : Lb, v = .agg #[.slice x.a x.ps.length x.c, .slice y.a y.ps.length y.c] ∧ PairsAt W x.a x.ps ∧ PairsAt W y.a y.ps ∧ LbOk x ∧ LbOk y := by
  simp only [Value.okWide, Tryd.underlying27] at hv
  obtain ⟨cs, rfl, -, -⟩ := hv
  obtain ⟨xs, m, -, -, hl, hxs, hx⟩ := DataW.trod_array Tryd.underlying27 h
  have hl2 : cs.toList.length = 2 := hl.trans (by kernel_rfl)
  rw [cellsPs1] at hx
  match cs, hl2 with
  | ⟨[v0, v1]⟩, _ =>
    have g0 := hx 0 (by decide)
    have g1 := hx 1 (by decide)
    match xs, hxs with
    | [y0, y1], _ =>
      simp [Value.cells] at g0 g1
      obtain ⟨a, l, c, e⟩ := slice_cs Tryd.underlying26 g0
      obtain ⟨a', l', c', e'⟩ := slice_cs Tryd.underlying26 g1
      simp only [List.cons.injEq, and_true] at e e'
      subst e e'
      obtain ⟨ps, rfl, k1, k2, k3, -⟩ := open_pairs g0
      obtain ⟨qs, rfl, j1, j2, j3, -⟩ := open_pairs g1
      exact ⟨⟨a, c, ps⟩, ⟨a', c', qs⟩, rfl, k1, j1, ⟨k2, fun p hp => (k3 p hp).2⟩, ⟨j2, fun p hp => (j3 p hp).2⟩⟩
end

theorem infoStr : (Tryd.prog.info? 9).map (fun i => (i.zero, i.size, i.bytes)) = some (some (.string ⟨#[]⟩), 1, 16) := by kernel_rfl
theorem info_split {α β γ δ : Type} {o : Option α} {f : α → Option β} {g : α → γ} {h : α → δ} {z : β} {x : γ} {y : δ} (e : o.map (fun i => (f i, g i, h i)) = some (some z, x, y)) : ∃ i, o = some i ∧ f i = some z ∧ g i = x ∧ h i = y := by
  cases o with
  | none => cases e
  | some i =>
    simp only [Option.map_some, Option.some.injEq, Prod.mk.injEq] at e
    exact ⟨i, rfl, e.1, e.2.1, e.2.2⟩
/-- A slice of texts in blocks from B on. -/
def OwnE (w : World) (B : Nat) (v : Value) (ss : List ByteArray) : Prop := w.ownsRow B 9 1 v ss.length (ss.map .string)
theorem OwnE.form {w : World} {B : Nat} {v : Value} {ss : List ByteArray} (h : OwnE w B v ss) : ∃ a c, v = .slice a ss.length c ∧ StrsAt w a ss ∧ ss.length ≤ c := by
  have hcl := fun g hg j u hj => World.ownsRow.cells h (g := g) hg j u hj
  rcases h.2 with ⟨rfl, h0⟩ | ⟨g, cap, cur, rfl, hg0, hg1, hcap, hmax, hcs, htk⟩
  · exact ⟨none, 0, by rw [h0], fun hn => absurd hn (by omega), by omega⟩
  · refine ⟨_, _, rfl, fun _ => ⟨g, 0, rfl, lt_of_block hg1, fun i hi => ?_⟩, hcap⟩
    have e0 := hcl g rfl i (.string ss[i]) (by simp [hi])
    rw [Go.WideShapes.add_plain] at e0
    exact e0
/-- append, at texts of the call's own, of texts that lie somewhere. -/
theorem wpList_append_strs (w : World) {ops : Array Oper} {rest : List Oper} {o : Oper} {act : Act} {Q : Exit → Act → World → Prop} (hgd : o.guard = none) (s x : Operand)
    (ho : o.op = .call { callee := .builtin .append, args := #[s, x], argTypes := #[23, 23] }) (B : Nat) (v : Value) (rs : List ByteArray) (hs : act.eval s = v) (hown : OwnE w B v rs)
    (a : Option Addr) (n c : Nat) (ps : List ByteArray) (hx : act.eval x = .slice a n c) (hn : n = ps.length) (hat : StrsAt w a ps) (hc0 : a = none → c = 0)
    (hb : rs.length + ps.length ≤ 1048576) (hB : B ≤ w.heap.size)
    (h : ∀ v' w', OwnE w' B v' (rs ++ ps) → w.grownBy w' v.ownBlock → wpList Tryd.prog ops Q rest (act.put o.dst v') w') : wpList Tryd.prog ops Q (o :: rest) act w := by
  subst hn
  obtain ⟨i0, hi, hi0, hi1, hi2⟩ := info_split infoStr
  cases a with
  | none =>
    have h0 : ps.length = 0 := by
      by_cases hp : 0 < ps.length
      · obtain ⟨b, o, he, -⟩ := hat hp
        cases he
      · omega
    obtain rfl := List.eq_nil_of_length_eq_zero h0
    obtain rfl := hc0 rfl
    refine wpList_append_own_none hgd s x 23 ho B 9 i0 1 Tryd.underlying23 hi v rs.length (rs.map .string) hs hown hx ?_
    exact h v w (by simpa using hown) (World.grownBy.refl w _)
  | some q =>
    refine wpList_append_own w hgd s x 23 ho B 9 i0 _ 1 16 Tryd.underlying23 hi hi0 hi1 hi2 rfl (by decide) v rs.length (rs.map .string) hs hown q ps.length c (ps.map .string) hx (by simp) (fun j u hj => ?_) (fun u hu => ?_) (by unfold maxLen; omega) (by omega) hB (fun v' w' h1 h2 _ => h v' w' ?_ h2)
    · obtain ⟨hj1, hj2⟩ := List.getElem?_eq_some_iff.1 hj
      rw [List.length_map] at hj1
      obtain ⟨b, o, he, -, hc⟩ := hat (by omega)
      obtain rfl := Option.some.inj he
      rw [Go.WideShapes.add_plain, ← hj2, List.getElem_map]
      exact hc j hj1
    · obtain ⟨y, -, rfl⟩ := List.mem_map.1 hu
      rfl
    · unfold OwnE
      rw [List.map_append, List.length_append]
      exact h1
theorem by_more (r : Rl) (a : Option Addr) (c : Nat) (s : ByteArray) (ps qs : List Pr) : byP { r with ea := a, ec := c, eqs := r.eqs ++ [s] } ps qs ↔ byP r ps qs ∧ getV ps s.toList = getV qs s.toList := by
  unfold byP
  simp only [List.mem_append, List.mem_singleton]
  constructor
  · rintro ⟨h1, h2⟩; exact ⟨⟨fun x hx => h1 x (.inl hx), h2⟩, h1 s (.inr rfl)⟩
  · rintro ⟨⟨h1, h2⟩, h3⟩
    refine ⟨fun x hx => ?_, h2⟩
    rcases hx with hx | rfl
    · exact h1 x hx
    · exact h3
theorem by_less {r : Rl} {ps qs : List Pr} (h : byP r ps qs) : byP { r with ea := none, ec := 0, eqs := [] } ps qs := ⟨(fun x hx => by cases hx), h.2⟩
theorem beq_of {a b : ByteArray} : (a.toList == b.toList) = true ↔ a = b := by
  rw [beq_iff_eq]
  constructor
  · intro e
    rw [ByteArray.toList_eq, ByteArray.toList_eq] at e
    exact ByteArray.ext (Array.toList_inj.1 e)
  · rintro rfl; rfl

set_option maxRecDepth 20000 in
set_option maxHeartbeats 4000000 in
theorem equal_walk (r : Rl) (x y : Lb) (s : ByteArray) (w : World) (htab : TabW w) (hr : RlAt w r) (okr : RlOk r) (hz : r.ea = none → r.ec = 0) (hx : PairsAt w x.a x.ps) (hy : PairsAt w y.a y.ps) (okx : LbOk x) (oky : LbOk y) (hss : s.size ≤ 9223372036854775807) :
    Calls Tryd.prog 3 #[.agg #[.slice r.sa r.src.length r.sc, .slice r.ta r.tgt.length r.tc, .slice r.ea r.eqs.length r.ec], .agg #[.slice x.a x.ps.length x.c, .slice y.a y.ps.length y.c], .string s] w fun e w' => e = .returned (.bool true) ∧ Below w.heap.size w w' := by
  obtain ⟨sa, sc, ps⟩ := x
  obtain ⟨ta, tc, qs⟩ := y
  simp only at hx hy okx oky ⊢
  have htl := htab.lt
  have kM : maxLen = 9223372036854775807 := rfl
  obtain ⟨hpn, hpv⟩ := okx
  obtain ⟨hqn, hqv⟩ := oky
  simp only at hpn hpv hqn hqv
  obtain ⟨w1, hw1⟩ : ∃ x, x = w.alloc (.cells #[.slice r.sa r.src.length r.sc, .slice r.ta r.tgt.length r.tc, .slice r.ea r.eqs.length r.ec] 25) := ⟨_, rfl⟩
  obtain ⟨w2, hw2⟩ : ∃ x, x = w1.alloc (.cells #[.slice sa ps.length sc, .slice ta qs.length tc] 27) := ⟨_, rfl⟩
  have s1 : w1.heap.size = w.heap.size + 1 := by rw [hw1]; simp
  have s2 : w2.heap.size = w.heap.size + 1 + 1 := by rw [hw2]; simp [s1]
  have d1 : Below w.heap.size w w1 := by rw [hw1]; exact (Below.refl w.heap.size w).alloc (Nat.le_refl _) _
  have d2 : Below w1.heap.size w1 w2 := by rw [hw2]; exact (Below.refl w1.heap.size w1).alloc (Nat.le_refl _) _
  have k1 : RlBlk w1 w.heap.size r := by rw [hw1]; exact heap_new w _
  have k2 := k1.below d2
  have t2 : w2.heap[w.heap.size + 1]? = some (.cells #[.slice sa ps.length sc, .slice ta qs.length tc] 27 (0, 0)) := by rw [hw2, ← s1]; exact heap_new w1 _
  have e2 : Below w.heap.size w w2 := d1.trans (d2.mono d1.size)
  have ct0 : w2.cell? ⟨w.heap.size + 1, 0, none⟩ = some (.slice sa ps.length sc) := cell_heap t2
  have ct1 : w2.cell? ⟨w.heap.size + 1, 1, none⟩ = some (.slice ta qs.length tc) := cell_heap t2
  have HBy := Lib.hid (fun (r : Rl) (okr : RlOk r) u (hb : Below w.heap.size w u) (hr : RlAt u r) => iBy_any r sa sc ps ta tc qs u (htab.on hb htl) hr okr (hx.below hb (Nat.le_refl _)) (hy.below hb (Nat.le_refl _)) hpn hqn hpv hqv)
  have HG1 := Lib.hid (fun u (hb : Below w.heap.size w u) => Get_any sa sc ps s u (hx.below hb (Nat.le_refl _)) hpn _ rfl)
  have HG2 := Lib.hid (fun u (hb : Below w.heap.size w u) => Get_any ta tc qs s u (hy.below hb (Nat.le_refl _)) hqn _ rfl)
  have HW := Lib.hid (fun u (hb : Below w.heap.size w u) => iawake_any u (htab.on hb htl))
  have HL := Lib.hid (fun u (hb : Below w.heap.size w u) => vLight_any (some ⟨u.heap.size, 0, none⟩) 1 [r] (some ⟨u.heap.size + 1, 0, none⟩) 2 [⟨sa, sc, ps⟩, ⟨ta, tc, qs⟩] ((u.alloc (.cells #[.slice r.sa r.src.length r.sc, .slice r.ta r.tgt.length r.tc, .slice r.ea r.eqs.length r.ec] 25)).alloc (.cells #[.slice sa ps.length sc, .slice ta qs.length tc] 26))
    (by
      have g1 := (Below.refl (u.alloc (.cells #[.slice r.sa r.src.length r.sc, .slice r.ta r.tgt.length r.tc, .slice r.ea r.eqs.length r.ec] 25)).heap.size (u.alloc (.cells #[.slice r.sa r.src.length r.sc, .slice r.ta r.tgt.length r.tc, .slice r.ea r.eqs.length r.ec] 25))).alloc (Nat.le_refl _) (.cells #[.slice sa ps.length sc, .slice ta qs.length tc] 26)
      have n1 : RlBlk (u.alloc (.cells #[.slice r.sa r.src.length r.sc, .slice r.ta r.tgt.length r.tc, .slice r.ea r.eqs.length r.ec] 25)) u.heap.size r := heap_new u _
      exact rls_one (n1.below g1) (hr.below ((hb.alloc hb.size _).trans (g1.mono (hb.alloc hb.size _).size)) (Nat.le_refl _)))
    (by
      have g1 := (Below.refl (u.alloc (.cells #[.slice r.sa r.src.length r.sc, .slice r.ta r.tgt.length r.tc, .slice r.ea r.eqs.length r.ec] 25)).heap.size (u.alloc (.cells #[.slice r.sa r.src.length r.sc, .slice r.ta r.tgt.length r.tc, .slice r.ea r.eqs.length r.ec] 25))).alloc (Nat.le_refl _) (.cells #[.slice sa ps.length sc, .slice ta qs.length tc] 26)
      have g2 := (hb.alloc hb.size _).trans (g1.mono (hb.alloc hb.size _).size)
      have n2 := heap_new (u.alloc (.cells #[.slice r.sa r.src.length r.sc, .slice r.ta r.tgt.length r.tc, .slice r.ea r.eqs.length r.ec] 25)) (.cells #[.slice sa ps.length sc, .slice ta qs.length tc] 26)
      rw [show (u.alloc (.cells #[.slice r.sa r.src.length r.sc, .slice r.ta r.tgt.length r.tc, .slice r.ea r.eqs.length r.ec] 25)).heap.size = u.heap.size + 1 by simp] at n2
      exact lbs_two (x := ⟨sa, sc, ps⟩) (y := ⟨ta, tc, qs⟩) n2 (hx.below g2 (Nat.le_refl _)) (hy.below g2 (Nat.le_refl _))) (by simp) (by simp) (fun x hx => by
        simp only [List.mem_cons, List.not_mem_nil, or_false] at hx
        rcases hx with rfl | rfl
        · exact hpn
        · exact hqn))
  have HR := Lib.hid (fun u (hb : Below w.heap.size w u) => hr.below hb (Nat.le_refl _))
  have HOk := Lib.hid okr
  have HZ := Lib.hid hz
  have HLe : Hid (LightI [r] [⟨sa, sc, ps⟩, ⟨ta, tc, qs⟩] → r.eqs.length ≤ 40) := Lib.hid fun h => (h.2.2.2 0 (by simp)).2.2
  have HMo := Lib.hid (fun a c => by_more r a c s ps qs)
  have HBl := Lib.hid (fun h => by_less (r := r) (ps := ps) (qs := qs) h)
  have HEq := Lib.hid (beq_of (a := getV ps s.toList) (b := getV qs s.toList))
  generalize getV ps s.toList = V1 at *
  generalize getV qs s.toList = V2 at *
  have E2 := Lib.hid e2
  have K2 := Lib.hid k2
  clear d1 d2 k1 k2 t2 e2 s1 s2 hr okr hx hy hpv hqv htab htl hz
  subst hw1
  rw [show ([r] : List Rl).length = 1 from rfl, show ([⟨sa, sc, ps⟩, ⟨ta, tc, qs⟩] : List Lb).length = 2 from rfl] at HL
  go_enter Tryd.func3, Tryd.ntmps3
  go_wp2_with fail
  rw [← hw2]
  clear hw2
  refine wp_region_any (by kernel_rfl) ?_
  change wpAny _ _ _ _ _ _ _ (World.drew _)
  have hS : (fun w' : World => w'.cell? ⟨w.heap.size + 1, 0, none⟩ = some (.slice sa ps.length sc) ∧ w'.cell? ⟨w.heap.size + 1, 1, none⟩ = some (.slice ta qs.length tc)) w2.drew := ⟨ct0, ct1⟩
  refine wpAny_of_held (S := fun w' => w'.cell? ⟨w.heap.size + 1, 0, none⟩ = some (.slice sa ps.length sc) ∧ w'.cell? ⟨w.heap.size + 1, 1, none⟩ = some (.slice ta qs.length tc)) _ _ _ _ ?_
  refine wpAnyH_take_at (i := 0) (some 13) (v := ?_) rfl rfl (by as_aux_lemma => kernel_rfl) (by as_aux_lemma => kernel_rfl) (by as_aux_lemma => kernel_rfl) (fun _ _ _ h => h) (Or.inl ⟨by kernel_rfl, ?_⟩) hS ?_
  rotate_left
  · intro w hSw; obtain ⟨e1, e2⟩ := hSw; go_simp
    first | done | with_reducible rfl
  skip
  refine wpAnyH_take_at (i := 1) (some 14) (v := ?_) rfl rfl (by as_aux_lemma => kernel_rfl) (by as_aux_lemma => kernel_rfl) (by as_aux_lemma => kernel_rfl) (fun _ _ _ h => h) (Or.inl ⟨by kernel_rfl, ?_⟩) hS ?_
  rotate_left
  · intro w hSw; obtain ⟨e1, e2⟩ := hSw; go_simp
    first | done | with_reducible rfl
  skip
  refine wpAnyH_take_at (i := 2) (some 15) (v := ?_) rfl rfl (by as_aux_lemma => kernel_rfl) (by as_aux_lemma => kernel_rfl) (by as_aux_lemma => kernel_rfl) (fun _ _ _ h => h) (Or.inl ⟨by kernel_rfl, ?_⟩) hS ?_
  rotate_left
  · intro w hSw; obtain ⟨e1, e2⟩ := hSw; go_simp
    first | done | with_reducible rfl
  skip
  refine wpAnyH_take_at (i := 3) (some 16) (v := ?_) rfl rfl (by as_aux_lemma => kernel_rfl) (by as_aux_lemma => kernel_rfl) (by as_aux_lemma => kernel_rfl) (fun _ _ _ h => h) (Or.inl ⟨by kernel_rfl, ?_⟩) hS ?_
  rotate_left
  · intro w hSw; obtain ⟨e1, e2⟩ := hSw; go_simp
    first | done | with_reducible rfl
  skip
  refine wpAnyH_take_at (i := 4) (some 7) (v := ?_) rfl rfl (by as_aux_lemma => kernel_rfl) (by as_aux_lemma => kernel_rfl) (by as_aux_lemma => kernel_rfl) (fun _ _ _ h => h) (Or.inl ⟨by kernel_rfl, ?_⟩) hS ?_
  rotate_left
  · intro w hSw; obtain ⟨e1, e2⟩ := hSw; go_simp
    first | done | with_reducible rfl
  skip
  refine wpAnyH_take_at (i := 5) (some 8) (v := ?_) rfl rfl (by as_aux_lemma => kernel_rfl) (by as_aux_lemma => kernel_rfl) (by as_aux_lemma => kernel_rfl) (fun _ _ _ h => h) (Or.inl ⟨by kernel_rfl, ?_⟩) hS ?_
  rotate_left
  · intro w hSw; obtain ⟨e1, e2⟩ := hSw; go_simp
    first | done | with_reducible rfl
  skip
  refine wpAnyH_done (by kernel_rfl) ?_ _
  have E3 := Lib.hid E2.out.drew
  have K3 : Hid (RlBlk w2.drew w.heap.size r) := Lib.hid K2.out
  clear hS ct0 ct1 E2 K2
  generalize w2.drew = w3 at *
  go_simp
  have H1 := Lib.hid (HL.out _ E3.out)
  have c0 := K3.out.c0
  have c1 := K3.out.c1
  have c2 := K3.out.c2
  go_wp2_with (go_at_call 4; refine H1.out.mono ?_; rintro e w4 ⟨⟨b4, rfl, hb4⟩, q4⟩; have HL4 := Lib.hid hb4; clear hb4; refine Hid.out ?_)
  refine Lib.hid ?_
  have g3 := (((Below.refl w3.heap.size w3).alloc (Nat.le_refl _) (.cells #[.slice r.sa r.src.length r.sc, .slice r.ta r.tgt.length r.tc, .slice r.ea r.eqs.length r.ec] 25)).alloc (by simp) (.cells #[.slice sa ps.length sc, .slice ta qs.length tc] 26)).trans (q4.mono (by simp; omega))
  have E4 := Lib.hid (E3.out.trans (g3.mono E3.out.size))
  have K4 := Lib.hid (K3.out.below g3)
  clear c0 c1 c2 g3 q4 E3 K3 H1 HL
  cases b4 with
  | false =>
    have HW4 := Lib.hid (HW.out _ E4.out)
    clear HL4 HBy HG1 HG2
    go_wp2_with (go_at_call 5; refine HW4.out.mono ?_; rintro e w5 ⟨rfl, q5⟩)
    go_ret
    exact ⟨rfl, E4.out.trans (q5.mono E4.out.size)⟩
  | true =>
  have h40 := HLe.out (HL4.out.1 rfl)
  have c0 := K4.out.c0
  have c1 := K4.out.c1
  have c2 := K4.out.c2
  have H1 := Lib.hid (HBy.out r HOk.out _ E4.out (HR.out _ E4.out))
  clear HL4 HLe
  go_wp2_with (go_at_call 6; refine H1.out.mono ?_; rintro e w5 ⟨⟨b5, rfl, hb5⟩, q5⟩; have HB5 := Lib.hid hb5; clear hb5; refine Hid.out ?_)
  refine Lib.hid ?_
  have E5 := Lib.hid (E4.out.trans (q5.mono E4.out.size))
  have K5 := Lib.hid (K4.out.below q5)
  clear c0 c1 c2 q5 E4 K4 H1
  have c0 := K5.out.c0
  have c1 := K5.out.c1
  have c2 := K5.out.c2
  obtain ⟨w6, hw6⟩ : ∃ x, x = w5.alloc (.cells #[.slice r.sa r.src.length r.sc, .slice r.ta r.tgt.length r.tc, .slice r.ea r.eqs.length r.ec] 25) := ⟨_, rfl⟩
  obtain ⟨w7, hw7⟩ : ∃ x, x = w6.alloc (.cells #[] 9) := ⟨_, rfl⟩
  have s6 : w6.heap.size = w5.heap.size + 1 := by rw [hw6]; simp
  have g6 : Below w5.heap.size w5 w6 := by rw [hw6]; exact (Below.refl w5.heap.size w5).alloc (Nat.le_refl _) _
  have g7 : Below w6.heap.size w6 w7 := by rw [hw7]; exact (Below.refl w6.heap.size w6).alloc (Nat.le_refl _) _
  have m6 : RlBlk w6 w5.heap.size r := by rw [hw6]; exact heap_new w5 _
  have o7 : OwnE w7 (w5.heap.size + 1) (.slice (some ⟨w5.heap.size + 1, 0, none⟩) 0 0) [] := by rw [hw7, ← s6]; exact World.ownsRow_made w6 #[] 0 (Nat.le_refl _) (Nat.zero_le _) (by simp)
  have hb7 : w5.heap.size + 1 ≤ w7.heap.size := by have := g7.size; omega
  have m7 := m6.below g7
  have g57 := g6.trans (g7.mono g6.size)
  have k7 := K5.out.below g57
  have st7 : StrsAt w7 r.ea r.eqs := (HR.out _ (E5.out.trans (g57.mono E5.out.size))).2.2
  have G57 := Lib.hid g57
  have M7 := Lib.hid m7
  have O7 := Lib.hid o7
  have ST7 := Lib.hid st7
  have HB7 := Lib.hid hb7
  have K7 := Lib.hid k7
  have d0 := k7.c0
  have d1 := k7.c1
  have d2 := k7.c2
  clear g6 g7 m6 o7 m7 g57 k7 st7 hb7
  clear s6
  subst hw7
  subst hw6
  go_wp2_with (at_builtin; refine wpList_append_strs _ rfl _ _ rfl (w5.heap.size + 1) _ [] rfl O7.out r.ea _ r.ec r.eqs rfl rfl ST7.out HZ.out (by simp; omega) HB7.out ?_; refine Hid.out ?_)
  refine Lib.hid ?_
  intro v8 w8 hown8 hgrow8
  have f8 := (Below.refl (w5.heap.size + 1) _).grown hgrow8 HB7.out (fun k hk => (World.ownsRow.lt O7.out k hk).1)
  have hb8 : w5.heap.size + 1 ≤ w8.heap.size := Nat.le_trans HB7.out f8.size
  have O8 := Lib.hid hown8
  have hlw := Nat.lt_of_lt_of_le (lt_of_block K5.out) (Nat.le_refl _)
  have M8 : Hid (RlBlk w8 w5.heap.size r) := Lib.hid ((f8.block _ (by omega)).trans M7.out)
  have K8 : Hid (RlBlk w8 w.heap.size r) := Lib.hid ((f8.block _ (by omega)).trans K7.out)
  have G8 := Lib.hid (G57.out.trans (f8.mono (by omega)))
  have HB8 := Lib.hid hb8
  have HLW := Lib.hid hlw
  obtain ⟨a8, c8, rfl, st8, hc8⟩ := hown8.form
  clear hown8 hgrow8 f8 hb8 st8 hc8 O7 ST7 HB7 K7 M7 G57 d0 d1 d2 c0 c1 c2 hlw
  go_wp2_with (at_builtin; refine wpList_append_strs _ rfl _ _ rfl (w5.heap.size + 1) _ r.eqs rfl (World.ownsRow.alloc O8.out _) (some ⟨w8.heap.size, 0, none⟩) 1 1 [s] rfl rfl (strs_one (heap_new w8 _)) (fun e => by cases e) (by simp; omega) (by have := HB8.out; simp; omega) ?_; refine Hid.out ?_)
  refine Lib.hid ?_
  intro v10 w10 hown10 hgrow10
  have hA8 := (Below.refl (w5.heap.size + 1) w8).alloc HB8.out (.cells #[.string s] 9)
  have f10 := hA8.grown hgrow10 (by have := HB8.out; simp; omega) (fun k hk => (World.ownsRow.lt O8.out k hk).1)
  have hlw := HLW.out
  have m10 : RlBlk w10 w5.heap.size r := (f10.block _ (by omega)).trans M8.out
  have K10 : Hid (RlBlk w10 w.heap.size r) := Lib.hid ((f10.block _ (by omega)).trans K8.out)
  have G10 := Lib.hid (G8.out.trans (f10.mono (by omega)))
  obtain ⟨a10, c10, hv10, st10, hc10⟩ := hown10.form
  have hl1 : (r.eqs ++ [s]).length = r.eqs.length + 1 := by simp
  rw [hl1] at hv10 hc10
  subst hv10
  have x0 := K10.out.c0
  have x1 := K10.out.c1
  have x2 := K10.out.c2
  have hsz10 : w5.heap.size + 1 ≤ w10.heap.size := by have := f10.size; have := HB8.out; omega
  have e2 := m10.c2
  have fr : w10.frozen? ⟨w5.heap.size, 2, none⟩ = false := by simp [World.frozen?, show w10.heap[w5.heap.size]? = _ from m10]
  obtain ⟨w11, hw11⟩ : ∃ x, x = w10.setCell ⟨w5.heap.size, 2, none⟩ (.slice a10 (r.eqs.length + 1) c10) := ⟨_, rfl⟩
  have f11 : Below w5.heap.size w10 w11 := by rw [hw11]; exact (Below.refl _ _).setCell (p := ⟨w5.heap.size, 2, none⟩) (Nat.le_refl _) _
  have b11 : w11.heap[w5.heap.size]? = some (.cells #[.slice r.sa r.src.length r.sc, .slice r.ta r.tgt.length r.tc, .slice a10 (r.eqs.length + 1) c10] 25 (0, 0)) := by
    have h10 : w10.heap[w5.heap.size]? = some (.cells #[.slice r.sa r.src.length r.sc, .slice r.ta r.tgt.length r.tc, .slice r.ea r.eqs.length r.ec] 25 (0, 0)) := m10
    rw [hw11]
    simp [World.setCell, Array.getElem?_modify, h10]
  have s11 : w11.heap.size = w10.heap.size := by rw [hw11]; simp [World.setCell]
  have hne : ∀ k, k ≠ w5.heap.size → w11.heap[k]? = w10.heap[k]? := fun k hk => by rw [hw11]; exact Below.heap_setCell _ _ _ _ hk
  have st11 : StrsAt w11 a10 (r.eqs ++ [s]) := fun hn => by
    obtain ⟨b, o, e, hbl, hc⟩ := st10 hn
    refine ⟨b, o, e, by omega, fun i hi => ?_⟩
    have hbk : w5.heap.size + 1 ≤ b := by
      have := World.ownsRow.lt hown10 b (by rw [e]; rfl)
      exact this.1
    rw [World.cell?_of_block (w := w10) (hne b (by omega))]
    exact hc i hi
  have k11 : RlBlk w11 w.heap.size r := (hne _ (by omega)).trans K10.out
  have g11 := G10.out.trans f11
  have y2 : (w10.setCell ⟨w5.heap.size, 2, none⟩ (.slice a10 (r.eqs.length + 1) c10)).cell? ⟨w.heap.size, 2, none⟩ = some (.slice r.ea r.eqs.length r.ec) := by rw [← hw11]; exact k11.c2
  have hna : w.heap.size ≠ w5.heap.size := by omega
  have hnb : w5.heap.size ≠ w.heap.size := by omega
  obtain ⟨w12, hw12⟩ : ∃ x, x = w11.alloc (.cells #[.slice r.sa r.src.length r.sc, .slice r.ta r.tgt.length r.tc, .slice none 0 0] 25) := ⟨_, rfl⟩
  have g12 : Below w11.heap.size w11 w12 := by rw [hw12]; exact (Below.refl w11.heap.size w11).alloc (Nat.le_refl _) _
  have l12 : RlBlk w12 w10.heap.size { r with ea := none, ec := 0, eqs := [] } := by rw [hw12, ← s11]; exact heap_new w11 _
  have n12 : RlBlk w12 w5.heap.size { r with ea := a10, ec := c10, eqs := r.eqs ++ [s] } := by
    have h := (g12.block w5.heap.size (by omega)).trans b11
    unfold RlBlk
    simp only [hl1]
    exact h
  have e12 : Below w.heap.size w w12 := E5.out.trans ((g11.trans (g12.mono g11.size)).mono E5.out.size)
  have r12 := HR.out _ e12
  have RM : Hid (RlAt w12 { r with ea := a10, ec := c10, eqs := r.eqs ++ [s] }) := Lib.hid ⟨r12.1, r12.2.1, st11.below g12 (Nat.le_refl _)⟩
  have RL : Hid (RlAt w12 { r with ea := none, ec := 0, eqs := [] }) := Lib.hid ⟨r12.1, r12.2.1, fun h => absurd h (by simp)⟩
  have OM : Hid (RlOk { r with ea := a10, ec := c10, eqs := r.eqs ++ [s] }) := Lib.hid ⟨HOk.out.1, HOk.out.2.1, ⟨by show (r.eqs ++ [s]).length ≤ maxLen; omega, fun y hy => by
    rcases List.mem_append.1 hy with hy | hy
    · exact HOk.out.2.2.1.2 y hy
    · rw [List.mem_singleton.1 hy, kM]; exact hss⟩, by show (r.eqs ++ [s]).length ≤ c10; omega⟩
  have OL : Hid (RlOk { r with ea := none, ec := 0, eqs := [] }) := Lib.hid ⟨HOk.out.1, HOk.out.2.1, ⟨Nat.zero_le _, fun y hy => by cases hy⟩, Nat.zero_le _⟩
  have L12 := Lib.hid l12
  have N12 := Lib.hid n12
  have E12 := Lib.hid e12
  have H1 := Lib.hid (HG1.out _ e12)
  have HMo2 := Lib.hid (HMo.out a10 c10)
  clear hl1 hown10 hgrow10 f10 hA8 m10 K10 G10 st10 hc10 hsz10 f11 b11 s11 hne st11 k11 g11 O8 M8 K8 G8 HB8 hlw g12 l12 n12 e12 r12 HG1 HMo HOk HR HZ E5 K5
  subst hw12
  subst hw11
  go_wp2_with (go_at_call 7; refine H1.out.mono ?_; rintro e w13 ⟨rfl, q13⟩; refine Hid.out ?_)
  refine Lib.hid ?_
  have E13 := Lib.hid (E12.out.trans (q13.mono E12.out.size))
  have H2 := Lib.hid (HG2.out _ E13.out)
  have Q13 := Lib.hid q13
  clear q13 H1 HG2 x0 x1 x2 e2 fr y2 hna hnb
  go_wp2_with (go_at_call 7; refine H2.out.mono ?_; rintro e w14 ⟨rfl, q14⟩; refine Hid.out ?_)
  refine Lib.hid ?_
  have E14 := Lib.hid (E13.out.trans (q14.mono E13.out.size))
  have q24 := Q13.out.trans (q14.mono Q13.out.size)
  have L14 := Lib.hid (L12.out.below q24)
  have n14 := N12.out.below q24
  have y0 : w14.cell? ⟨w5.heap.size, 0, none⟩ = some (.slice r.sa r.src.length r.sc) := n14.c0
  have y1 : w14.cell? ⟨w5.heap.size, 1, none⟩ = some (.slice r.ta r.tgt.length r.tc) := n14.c1
  have y2 : w14.cell? ⟨w5.heap.size, 2, none⟩ = some (.slice a10 (r.eqs.length + 1) c10) := by
    have := n14.c2
    simpa using this
  have RL14 := Lib.hid (RL.out.below q24 (Nat.le_refl _))
  have H3 := Lib.hid (HBy.out _ OM.out _ E14.out (RM.out.below q24 (Nat.le_refl _)))
  simp only [List.length_append, List.length_singleton] at H3
  clear q14 q24 n14 H2 E13 Q13 E12 L12 N12 RM RL OM
  have HTT : Hid (∀ e, Tells (byP { r with ea := a10, ec := c10, eqs := r.eqs ++ [s] } ps qs) e → e = .returned (.bool (b5 && (V1.toList == V2.toList)))) := Lib.hid fun e he => tells_bool he (by
    rw [Bool.and_eq_true, HMo2.out, HEq.out, HB5.out])
  clear HEq HMo2
  go_wp2_with (go_at_call 6; refine H3.out.mono ?_; rintro e w15 ⟨he, q15⟩; obtain rfl := HTT.out _ he; clear he; refine Hid.out ?_)
  refine Lib.hid ?_
  have E15 := Lib.hid (E14.out.trans (q15.mono E14.out.size))
  have l15 := L14.out.below q15
  have z0 : w15.cell? ⟨w10.heap.size, 0, none⟩ = some (.slice r.sa r.src.length r.sc) := l15.c0
  have z1 : w15.cell? ⟨w10.heap.size, 1, none⟩ = some (.slice r.ta r.tgt.length r.tc) := l15.c1
  have z2 : w15.cell? ⟨w10.heap.size, 2, none⟩ = some (.slice none 0 0) := l15.c2
  have H4 := Lib.hid (HBy.out _ OL.out _ E15.out (RL14.out.below q15 (Nat.le_refl _)))
  rw [show ([] : List ByteArray).length = 0 from rfl] at H4
  clear q15 l15 H3 E14 L14 RL14 OL y0 y1 y2 HTT HBy
  generalize (V1.toList == V2.toList) = bq at *
  cases b5 with
  | false =>
    have HW5 := Lib.hid (HW.out _ E15.out)
    clear H4 HB5 HBl
    cases bq
    all_goals
      go_wp2_with (go_at_call 5; refine HW5.out.mono ?_; rintro e w6 ⟨rfl, q6⟩)
      go_ret
      exact ⟨rfl, E15.out.trans (q6.mono E15.out.size)⟩
  | true =>
    have HP := Lib.hid (HBl.out (HB5.out.1 rfl))
    clear HB5 HBl
    cases bq
    all_goals
      go_wp2_with (go_at_call 6; refine H4.out.mono ?_; rintro e w16 ⟨ht, q16⟩; obtain rfl := tells_yes ht HP.out; clear ht; refine Hid.out ?_)
      refine Lib.hid ?_
      have E16 := Lib.hid (E15.out.trans (q16.mono E15.out.size))
      have HW6 := Lib.hid (HW.out _ E16.out)
      clear q16
      go_wp2_with (go_at_call 5; refine HW6.out.mono ?_; rintro e w17 ⟨rfl, q17⟩)
      go_ret
      exact ⟨rfl, E16.out.trans (q17.mono E16.out.size)⟩

end Go.Proofs.YthaimnmbcbhioabDoor
