/-
  The closed case of layer 13.
-/
import Derived.Test.YtchhdffehkcecaaDoorP10
import Derived.Maps.AppendAt
namespace Go.Proofs.YtchhdffehkcecaaDoor
open Go Go.RowKit

/-- append of one byte: what lay there is still there. -/
theorem append_keepP (ty : TypeId) (w : World) (B g cap : Nat) (l : List UInt8) (x : UInt8) (q : Addr) (h : Own w B (.slice (some ⟨g, 0, none⟩) l.length cap) l) (hq : w.cell? (q.add 0) = some (.int .u8 x.toNat)) (hB : B ≤ w.heap.size) (hl : l.length ≤ 1000000) :
    ∃ a' n' c' w', (Builtin.append_ #[30, 30] ty #[.slice (some ⟨g, 0, none⟩) l.length cap, .slice (some q) 1 1]).run Tryd.prog w = .ok (.slice a' n' c') w' ∧ Own w' B (.slice a' n' c') (l ++ [x]) ∧ SrcAt w' (.slice (some ⟨g, 0, none⟩) l.length cap) l ∧ w.grownBy w' (some g) := by
  obtain ⟨i0, hi, hz0, hz1, hz2⟩ := info_parts infoByte
  have hnews : ∀ j u, [Value.int .u8 x.toNat][j]? = some u → w.cell? (q.add j) = some u := by
    intro j u hj
    match j, hj with
    | 0, hj => simp at hj; subst hj; exact hq
  have hone : ∀ u ∈ [Value.int .u8 x.toNat], u.oneCell' = true := by intro u hu; simp at hu; subst hu; rfl
  obtain ⟨v', w', hr, ho, hg, -, hat⟩ := run_append_own_at (P := Tryd.prog) w B 30 ty 5 i0 (.int .u8 0) 1 1 Tryd.underlying30 hi hz0 hz1 hz2 rfl (by decide) (.slice (some ⟨g, 0, none⟩) l.length cap) _ _ h q 1 1 [.int .u8 x.toNat] rfl hnews hone (by unfold maxLen; omega) (by omega) hB
  have ho' : Own w' B v' (l ++ [x]) := Own.of ho (by simp [Lib.byteCells])
  obtain ⟨a', n', c', rfl⟩ := ho'.form
  refine ⟨a', n', c', w', hr, ho', ?_, hg⟩
  have hlt := (World.ownsRow.lt h g rfl).2
  rcases hat with hat | hat
  · have hb : a' = some ⟨g, 0, none⟩ := by
      rcases ho'.2 with ⟨e, h0⟩ | ⟨g', cap', cur, e, -⟩
      · simp only [Value.slice.injEq] at e
        rw [e.1] at hat
        simp [Value.ownBlock] at hat
      · simp only [Value.slice.injEq] at e
        rw [e.1] at hat
        simp [Value.ownBlock] at hat
        rw [e.1, hat]
    subst hb
    refine .inr ⟨_, _, rfl, fun i hi => ?_⟩
    have := World.ownsRow.cells ho' (g := g) rfl i (.int .u8 (l[i].toNat : Int)) (by unfold Lib.byteCells; rw [List.getElem?_map, List.getElem?_append_left hi, List.getElem?_eq_getElem hi]; rfl)
    exact this
  · rcases h.2 with ⟨e, -⟩ | ⟨g0, cap0, cur, e, hg0, hg1, hcap, hmax, hcs, htk⟩
    · cases e
    · simp only [Value.slice.injEq, Option.some.injEq, Addr.mk.injEq] at e
      obtain ⟨⟨rfl, -, -⟩, -, rfl⟩ := e
      by_cases hroom : l.length + 1 ≤ cap
      · exfalso
        have hr2 := run_append_room (P := Tryd.prog) w 30 ty 5 i0 Tryd.underlying30 hi g l.length cap cur hg1 q 1 1 [.int .u8 x.toNat] (by rw [hz1]; rfl) hnews hone hroom (by rw [hz1]; simp only [List.length_cons, List.length_nil]; omega)
        rw [hr] at hr2
        injection hr2 with e1 e2
        rw [e1] at hat
        simp [Value.ownBlock] at hat
        omega
      · have hr2 := run_append_grow (P := Tryd.prog) w 30 ty 5 i0 (.int .u8 0) Tryd.underlying30 hi hz0 ⟨g, 0, none⟩ l.length cap (Lib.byteCells l) (by rw [hz1]; exact h.1) (World.ownsRow.cells h (g := g) rfl) q 1 1 [.int .u8 x.toNat] (by rw [hz1]; rfl) hnews (by omega) (by omega) (growslice_fits (by omega) (by rw [hz2]; omega))
        rw [hr] at hr2
        injection hr2 with e1 e2
        rw [e2]
        exact h.src.below ((Below.refl w.heap.size w).drew.alloc (Nat.le_refl _) _) (Nat.le_refl _)
theorem wpList_append_keepP {w : World} {ops : Array Oper} {rest : List Oper} {o : Oper} {a : Act} {Q : Exit → Act → World → Prop} (hgd : o.guard = none) (s x : Operand)
    (ho : o.op = .call { callee := .builtin .append, args := #[s, x], argTypes := #[30, 30] }) (B g cap : Nat) (l : List UInt8) (y : UInt8) (q : Addr) (n : Nat) (hn : n = l.length) (hs : a.eval s = .slice (some ⟨g, 0, none⟩) n cap) (hx : a.eval x = .slice (some q) 1 1)
    (hown : Own w B (.slice (some ⟨g, 0, none⟩) n cap) l) (hq : w.cell? (q.add 0) = some (.int .u8 y.toNat)) (hB : B ≤ w.heap.size) (hl : l.length ≤ 1000000)
    (h : ∀ a' n' c' w', Own w' B (.slice a' n' c') (l ++ [y]) → SrcAt w' (.slice (some ⟨g, 0, none⟩) n cap) l → w.grownBy w' (some g) → wpList Tryd.prog ops Q rest (a.put o.dst (.slice a' n' c')) w') : wpList Tryd.prog ops Q (o :: rest) a w := by
  subst hn
  refine wpList_plain hgd fun K hK => ?_
  obtain ⟨a', n', c', w', hr, h2, h3, h4⟩ := append_keepP o.type w B g cap l y q hown hq hB hl
  unfold Oper.wp execOp
  simp only [ho, resolve, invoke, builtin, Sem.run_bind, Sem.run_pure, Result.andThen_ok, List.map_toArray, List.map_cons, List.map_nil, hs, hx, hr]
  exact hK _ _ (h a' n' c' w' h2 h3 h4)
def awP : Pk := ⟨0, 1, 2, 3, [], []⟩
def awB : List UInt8 := [108, 105, 48, 101, 105, 49, 101, 105, 50, 101, 105, 51, 101, 108, 101, 108, 101, 101]
theorem awP_ok : awP.Ok := ⟨by decide, by decide, by decide, by decide, (fun m hm => by cases hm), (fun x hx => by cases hx)⟩
theorem awP_lay : layPk awP = awB := by decide +kernel
theorem awP_check : checkP awP = 0 := by decide +kernel
theorem awP_no : ¬ readOk (awB ++ [120]) := by unfold readOk; decide +kernel
set_option maxRecDepth 100000 in
set_option maxHeartbeats 4000000 in
theorem pawake_any (B : Nat) (W : World) (hB : B ≤ W.heap.size) (hv : VarsOk B W) :
    Calls Tryd.prog 9 #[] W fun e w' => e = .returned (.bool true) ∧ Below W.heap.size W w' := by
  have HP : Hid (Calls Tryd.prog 11 #[.agg #[.int .u8 0, .int .u16 1, .int .u16 2, .int .i64 3, .slice none 0 0, .slice none 0 0]] W fun e w' => ∃ a n c, e = .returned (.tuple #[.slice a n c, .int .i64 0]) ∧ Own w' W.heap.size (.slice a n c) (layPk awP) ∧ Below W.heap.size W w') := Lib.hid (pPut_ok awP awP_ok none 0 0 none 0 0 rfl rfl B W hB hv.tab (fun h => absurd h (by decide)) (fun h => absurd h (by decide)) awP_check)
  rw [awP_lay] at HP
  have HV := Lib.hid (And.intro hB hv)
  clear hB hv
  go_enter Tryd.func9, Tryd.ntmps9
  go_wp2_with (go_at_call 11; refine HP.out.mono ?_; rintro e w1 ⟨a1, n1, c1, rfl, ho1, q1⟩; replace ho1 := Lib.hid ho1; replace q1 := Lib.hid q1; refine Hid.out ?_)
  refine Lib.hid ?_
  obtain ⟨g, rfl⟩ : ∃ g, a1 = some ⟨g, 0, none⟩ := by
    rcases ho1.out.2 with ⟨e, h0⟩ | ⟨g, cap, cur, e, -⟩
    · exact absurd h0 (by decide)
    · simp only [Value.slice.injEq] at e; exact ⟨g, e.1⟩
  have hn1 : n1 = 18 := src_lenP ho1.out.src
  subst hn1
  clear HP
  have hown2 : Own (w1.alloc (.cells #[.int .u8 120] 5)) W.heap.size (.slice (some ⟨g, 0, none⟩) 18 c1) awB := World.ownsRow.kept ho1.out (grownBy_of_below (r := none) ((Below.refl w1.heap.size w1).alloc (Nat.le_refl _) _)) (by simp [Value.ownBlock])
  have hsz : W.heap.size ≤ w1.heap.size := q1.out.size
  have hq2 : (w1.alloc (.cells #[.int .u8 120] 5)).cell? ((⟨w1.heap.size, 0, none⟩ : Addr).add 0) = some (.int .u8 (120 : UInt8).toNat) := by rw [Go.WideShapes.add_plain]; exact cellE (newE w1 _)
  have HOW := Lib.hid (And.intro hown2 hq2)
  clear hown2 hq2
  go_wp2_with (at_builtin; refine wpList_append_keepP rfl _ _ rfl W.heap.size g c1 awB 120 ⟨w1.heap.size, 0, none⟩ 18 rfl rfl rfl HOW.out.1 HOW.out.2 (by simp; omega) (by decide) ?_; refine Hid.out ?_)
  refine Lib.hid ?_
  intro a3 n3 c3 w3 ho3 hs3 hg3
  have d1 := (Below.refl w1.heap.size w1).alloc (Nat.le_refl _) (.cells #[.int .u8 120] 5)
  have hgl := World.ownsRow.lt ho1.out g rfl
  have q3 : Below W.heap.size W w3 := (q1.out.trans (d1.mono hsz)).grown hg3 (by simp; omega) (fun j hj => by cases hj; exact hgl.1)
  have HR := Lib.hid (pRead_no a3 n3 c3 (awB ++ [120]) B w3 (Nat.le_trans HV.out.1 q3.size) (HV.out.2.on (q3.mono HV.out.1)) ho3.src awP_no)
  have HS3 := Lib.hid (And.intro hs3 q3)
  clear HOW ho1 q1 hsz d1 hgl q3 hs3 hg3 ho3 HV
  go_wp2_with (go_at_call 15; refine HR.out.mono ?_; rintro e w4 ⟨rfl, q4⟩; replace q4 := Lib.hid q4; refine Hid.out ?_)
  refine Lib.hid ?_
  have d5 := (Below.refl w4.heap.size w4).alloc (Nat.le_refl _) (.cells #[.int .u8 0, .int .u16 0, .int .u16 0, .int .i64 0, .slice none 0 0, .slice none 0 0] 26)
  have hs5 := (HS3.out.1.below q4.out (Nat.le_refl _)).below d5 (Nat.le_refl _)
  have hcv := src_string hs5
  have hcm : ((⟨awB.toArray⟩ : ByteArray).toList == [108, 105, 48, 101, 105, 49, 101, 105, 50, 101, 105, 51, 101, 108, 101, 108, 101, 101]) = true := by decide +kernel
  have q5 := HS3.out.2.trans (q4.out.mono HS3.out.2.size)
  have HQ := Lib.hid (q5.trans (d5.mono q5.size))
  clear HR HS3 d5 hs5 q4 q5
  generalize (⟨awB.toArray⟩ : ByteArray) = K at *
  go_wp2
  go_ret
  exact ⟨by first | rfl | simp, HQ.out⟩

end Go.Proofs.YtchhdffehkcecaaDoor
