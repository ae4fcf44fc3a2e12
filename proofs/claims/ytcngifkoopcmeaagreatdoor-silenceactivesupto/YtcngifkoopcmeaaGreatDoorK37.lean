/-
  List of the reference, walked: it begins with a row of the run-time's own mark, so what it owns is said with that mark.
-/
import Derived.Test.YtcngifkoopcmeaaGreatDoorK36
import Derived.Deep.AppendSrc
import Derived.Deep.RegionWith
import Derived.Laws.AppendOwnNone
namespace Go.Proofs.YtcngifkoopcmeaaGreatDoor
open Go.RowKit

/-- Bytes in a block from B on: a row of the call's own, or a full one that bears a mark. -/
def OwnM (w : World) (B : Nat) (v : Value) (l : List UInt8) : Prop :=
  Own w B v l ∨ ∃ g, v = .slice (some ⟨g, 0, none⟩) l.length l.length ∧ B ≤ g ∧ g < w.heap.size ∧ ∀ i (hi : i < l.length), w.cell? ⟨g, i, none⟩ = some (.int .u8 (l[i].toNat : Int))

theorem OwnM.src {w : World} {B : Nat} {v : Value} {l : List UInt8} (h : OwnM w B v l) : SrcAt w v l := by
  rcases h with h | ⟨g, rfl, _, _, hc⟩
  · exact h.src
  · exact .inr ⟨⟨g, 0, none⟩, l.length, rfl, fun i hi => by rw [Go.WideShapes.add_plain, Nat.zero_add]; exact hc i hi⟩

theorem OwnM.lt {w : World} {B : Nat} {v : Value} {l : List UInt8} (h : OwnM w B v l) : ∀ k, v.ownBlock = some k → B ≤ k := by
  rcases h with h | ⟨g, rfl, hB, _, hc⟩
  · exact fun k hk => (World.ownsRow.lt h k hk).1
  · intro k hk; cases hk; exact hB

theorem OwnM.form {w : World} {B : Nat} {v : Value} {l : List UInt8} (h : OwnM w B v l) : ∃ a k c, v = .slice a k c := by
  rcases h with h | ⟨g, rfl, _⟩
  · exact h.form
  · exact ⟨_, _, _, rfl⟩

/-- append of bytes that are read. -/
theorem append_m (ty : TypeId) (w : World) (B : Nat) (v x : Value) (l g : List UInt8) (h : OwnM w B v l) (hx : SrcAt w x g) (hB : B ≤ w.heap.size) (hl : l.length + g.length ≤ 140737488355328) :
    ∃ v' w', (Builtin.append_ #[111, 111] ty #[v, x]).run Tryz.prog w = .ok v' w' ∧ OwnM w' B v' (l ++ g) ∧ w.grownBy w' v.ownBlock := by
  obtain ⟨i0, hi, hz0, hz1, hz2⟩ := info_parts infoByte
  have hcells : ∀ {q : Addr} {c : Nat}, (∀ i (hi : i < g.length), w.cell? (q.add i) = some (.int .u8 (g[i].toNat : Int))) → ∀ j u, (Lib.byteCells g)[j]? = some u → w.cell? (q.add j) = some u := by
    intro q c hc j u hj
    simp only [Lib.byteCells, List.getElem?_map, Option.map_eq_some_iff] at hj
    obtain ⟨y, hy, rfl⟩ := hj
    obtain ⟨hj1, rfl⟩ := List.getElem?_eq_some_iff.1 hy
    exact hc j hj1
  have hone : ∀ u ∈ Lib.byteCells g, u.oneCell' = true := by
    intro u hu; simp only [Lib.byteCells, List.mem_map] at hu; obtain ⟨y, _, rfl⟩ := hu; rfl
  rcases h with h | ⟨b, rfl, hBb, hblt, hc⟩
  · rcases hx with ⟨rfl, rfl⟩ | ⟨q, c, rfl, hc⟩
    · exact ⟨v, w, run_append_owned_none (P := Tryz.prog) (w := w) B 111 ty 5 i0 1 Tryz.underlying111 hi v _ _ h, .inl (by rw [List.append_nil]; exact h), grownBy_refl _ _⟩
    · obtain ⟨v', w', hr, ho, hg, _⟩ := run_append_own (P := Tryz.prog) w B 111 ty 5 i0 (.int .u8 0) 1 1 Tryz.underlying111 hi hz0 hz1 hz2 rfl (by decide) v _ _ h q g.length c (Lib.byteCells g) (by simp [Lib.byteCells]) (hcells (c := c) hc) hone (by unfold maxLen; omega) (by omega) hB
      exact ⟨v', w', hr, .inl (Own.of ho (by simp [Lib.byteCells])), hg⟩
  · have hsrc : Src Tryz.prog i0.size 111 x g.length (Lib.byteCells g) w := by
      rw [hz1]
      rcases hx with ⟨rfl, rfl⟩ | ⟨q, c, rfl, hcq⟩
      · exact Src.ofNil w Tryz.underlying111 0
      · exact Src.ofSlice w Tryz.underlying111 q g.length c (Lib.byteCells g) (by simp [Lib.byteCells]) (hcells (c := c) hcq) hone
    cases g with
    | nil =>
      refine ⟨_, w, ?_, .inr ⟨b, rfl, hBb, hblt, ?_⟩, grownBy_refl _ _⟩
      · have := run_append_room_src w 111 111 ty 5 i0 Tryz.underlying111 hi b 0 l.length l.length x 0 [] hsrc (by omega) (fun j hj => absurd hj (by simp)) (fun j hj => absurd hj (by simp))
        simpa [World.setCells] using this
      · intro i hi; simp only [List.append_nil] at hi ⊢; exact hc i hi
    | cons y g =>
      have hlc : ∀ j v, (Lib.byteCells l)[j]? = some v → w.drew.cell? ((⟨b, 0, none⟩ : Addr).add j) = some v := by
        intro j u hj
        simp only [Lib.byteCells, List.getElem?_map, Option.map_eq_some_iff] at hj
        obtain ⟨z, hz, rfl⟩ := hj
        obtain ⟨hj1, rfl⟩ := List.getElem?_eq_some_iff.1 hz
        rw [Go.WideShapes.add_plain, Nat.zero_add]
        exact hc j hj1
      have hrun := run_append_grow_src w 111 111 ty 5 i0 (.int .u8 0) Tryz.underlying111 hi hz0 (some ⟨b, 0, none⟩) l.length l.length (Lib.byteCells l) (by
        rw [hz1]
        exact run_firstCells_some w.drew 1 l.length ⟨b, 0, none⟩ l.length l.length (Lib.byteCells l) (by simp [Lib.byteCells]) hlc) x (y :: g).length _ hsrc (by simp) (by simp at hl ⊢; omega) (growslice_fits (by simp) (by rw [hz2]; simp at hl ⊢; omega))
      refine ⟨_, _, hrun, .inl ?_, ?_⟩
      · have hge := grownCap_ge w (l.length + (y :: g).length) l.length 5
        have hcm := grownCap_le_maxLen w (l.length + (y :: g).length) l.length 5 (by unfold maxLen; omega)
        have hlen : (Lib.byteCells l ++ Lib.byteCells (y :: g)).length = l.length + (y :: g).length := by simp [Lib.byteCells]
        refine Own.of (n := l.length + (y :: g).length) (xs := Lib.byteCells l ++ Lib.byteCells (y :: g)) ⟨by rw [hlen, Nat.mul_one], .inr ⟨w.heap.size, _, _, rfl, hB, heap_alloc_new w.drew _, hge, hcm, ?_, ?_⟩⟩ (by simp [Lib.byteCells])
        · generalize grownCap w (l.length + (y :: g).length) l.length 5 = C at *
          simp only [Array.size_append, List.size_toArray, size_zeroCells, hlen, Value.cells]
          simp
          simp only [List.length_cons] at hge
          omega
        · rw [Nat.mul_one, ← hlen, Array.toList_append]
          exact List.take_left
      · refine grownBy_of_below ?_
        exact (Below.refl _ _).drew.alloc (Nat.le_refl _) _

theorem wpList_append_m {w : World} {ops : Array Oper} {rest : List Oper} {o : Oper} {a : Act} {Q : Exit → Act → World → Prop} (hgd : o.guard = none) (s x : Operand)
    (ho : o.op = .call { callee := .builtin .append, args := #[s, x], argTypes := #[111, 111] }) (B : Nat) (v y : Value) (l g : List UInt8) (hs : a.eval s = v) (hx : a.eval x = y)
    (hown : OwnM w B v l) (hsrc : SrcAt w y g) (hB : B ≤ w.heap.size) (hl : l.length + g.length ≤ 140737488355328)
    (h : ∀ v' w', OwnM w' B v' (l ++ g) → w.grownBy w' v.ownBlock → wpList Tryz.prog ops Q rest (a.put o.dst v') w') : wpList Tryz.prog ops Q (o :: rest) a w := by
  obtain ⟨v', w', hr, h2, h3⟩ := append_m o.type w B v y l g hown hsrc hB hl
  refine wpList_plain hgd fun K hK => ?_
  unfold Oper.wp execOp
  simp only [ho, resolve, invoke, builtin, Sem.run_bind, Sem.run_pure, Result.andThen_ok, List.map_toArray, List.map_cons, List.map_nil, hs, hx, hr]
  exact hK _ _ (h v' w' h2 h3)

set_option maxHeartbeats 1000000 in
set_option maxRecDepth 100000 in
theorem refList_own (q : Option Addr) (c : Nat) (ls : List (List UInt8)) (w : World) (h : PartsAt w q ls) (hn : ls.length ≤ 140737488355328) (hl : ls.flatten.length ≤ 140737488355000) :
    Calls Tryz.prog 110 #[.slice q ls.length c] w fun e w' => ∃ a k c, e = .returned (.slice a k c) ∧ OwnM w' w.heap.size (.slice a k c) (putList ls) ∧ Below w.heap.size w w' := by
  have kc := fun (w : World) (C : Array Value) (n c : Nat) => Lib.run_convert_bytes_const (P := Tryz.prog) w 111 5 C n c Tryz.underlying111 Tryz.underlying5
  go_enter Tryz.func110, Tryz.ntmps110
  go_wp2
  clear kc
  go_loopw [3, 4] (fun v i wr => ∃ (k : Nat) (a3 : Option Addr) (n3 c3 : Nat), k ≤ ls.length ∧ i = .int .i64 k ∧ v = .slice a3 n3 c3 ∧ OwnM wr w.heap.size (.slice a3 n3 c3) (108 :: (ls.take k).flatten) ∧ Below w.heap.size w wr) (fun _ i _ => ls.length - (intOf i).toNat)
  case atStart =>
    refine ⟨0, _, _, _, Nat.zero_le _, rfl, rfl, .inr ⟨w.heap.size, rfl, Nat.le_refl _, by simp, fun i hi => ?_⟩, (Below.refl _ _).alloc (Nat.le_refl _) _⟩
    rw [World.cell?_alloc_mark]
    match i, hi with
    | 0, _ => rfl
  case round =>
    obtain ⟨k, a3, n3, c3, hk, rfl, rfl, hown, hnx⟩ := hrel
    have hs1 := hnx.size
    by_cases hlt : k < ls.length
    · obtain ⟨b, o, rfl, hc⟩ := h (by omega)
      obtain ⟨v1, hcell, hsrc⟩ := hc k hlt
      have hcell1 : wr.cell? ⟨b, o + k, none⟩ = some v1 := by rw [hnx.cell (p := ⟨b, o + k, none⟩) (World.block_lt_of_cell? w _ hcell)]; exact hcell
      have hsrc1 := hsrc.below hnx (Nat.le_refl _)
      have hfl : (108 :: (ls.take (k + 1)).flatten) = (108 :: (ls.take k).flatten) ++ ls[k] := by
        rw [List.take_succ_eq_append_getElem hlt, List.flatten_append]; simp
      have hsum : ((ls.take k).flatten ++ ls[k]).length ≤ ls.flatten.length := by
        have e : ls.flatten = (ls.take (k + 1)).flatten ++ (ls.drop (k + 1)).flatten := by rw [← List.flatten_append, List.take_append_drop]
        rw [e, List.take_succ_eq_append_getElem hlt, List.flatten_append]; simp
      have HF := Lib.hid hfl
      rw [List.length_append] at hsum
      clear hfl hsrc hcell hc
      generalize hg : ls[k] = g at *
      have HG := Lib.hid hg
      clear hg
      generalize ht : (ls.take k).flatten = tk at *
      have HT := Lib.hid ht
      clear ht
      obtain ⟨xa, xn, xc, rfl⟩ : ∃ a n c, v1 = .slice a n c := by rcases hsrc1 with ⟨rfl, _⟩ | ⟨q, c, rfl, _⟩ <;> exact ⟨_, _, _, rfl⟩
      go_wp2_with (at_builtin; refine wpList_append_m rfl _ _ rfl w.heap.size _ _ (108 :: tk) g rfl rfl hown hsrc1 hs1 (by simp only [List.length_cons]; omega) ?_; refine Hid.out ?_)
      refine Lib.hid ?_
      intro v2 w2 hown2 hgrow
      have hnx2 : Below w.heap.size w w2 := hnx.grown hgrow hs1 (fun j hj => hown.lt j hj)
      obtain ⟨a4, n4, c4, hv4⟩ := hown2.form
      rw [hv4] at hown2 ⊢
      go_wp2
      go_roundw
      case rel => exact ⟨k + 1, a4, n4, c4, by omega, by go_num, rfl, by rw [HF.out]; exact hown2, hnx2⟩
      case measure => simp [intOf]; omega
    · obtain rfl : k = ls.length := by omega
      rw [List.take_length] at hown
      generalize ht : ls.flatten = tk at *
      have HT := Lib.hid ht
      clear ht
      have hone : SrcAt (wr.alloc (.cells #[.int .u8 101] 5)) (.slice (some ⟨wr.heap.size, 0, none⟩) 1 1) [101] := (own_one wr w.heap.size hs1 101).src
      have hown1 : OwnM (wr.alloc (.cells #[.int .u8 101] 5)) w.heap.size (.slice a3 n3 c3) (108 :: tk) := by
        rcases hown with ho | ⟨g, e, hB, hlt', hc⟩
        · exact .inl (World.ownsRow.alloc ho _)
        · refine .inr ⟨g, e, hB, by simp; omega, fun i hi => ?_⟩
          rw [((Below.refl wr.heap.size wr).alloc (Nat.le_refl _) _).cell (p := ⟨g, i, none⟩) hlt']
          exact hc i hi
      go_wp2_with (at_builtin; refine wpList_append_m rfl _ _ rfl w.heap.size _ _ (108 :: tk) [101] rfl rfl hown1 hone (by simp; omega) (by simp only [List.length_cons, List.length_nil]; omega) ?_; refine Hid.out ?_)
      refine Lib.hid ?_
      intro v2 w2 hown2 hgrow
      have hnx2 : Below w.heap.size w w2 := (hnx.alloc hs1 _).grown hgrow (by simp; omega) (fun j hj => hown.lt j hj)
      obtain ⟨a4, n4, c4, hv4⟩ := hown2.form
      rw [hv4] at hown2 ⊢
      go_wp2
      go_ret
      exact ⟨a4, n4, c4, rfl, by rw [putList, HT.out]; exact hown2, hnx2⟩
theorem refList_any (q : Option Addr) (c : Nat) (ls : List (List UInt8)) (w : World) (h : PartsAt w q ls) (hn : ls.length ≤ 140737488355328) (hl : ls.flatten.length ≤ 140737488355000) :
    Calls Tryz.prog 110 #[.slice q ls.length c] w fun e w' => ∃ a k c, e = .returned (.slice a k c) ∧ SrcAt w' (.slice a k c) (putList ls) ∧ Below w.heap.size w w' :=
  (refList_own q c ls w h hn hl).mono fun _ _ ⟨a, k, c, e, ho, hb⟩ => ⟨a, k, c, e, ho.src, hb⟩

end Go.Proofs.YtcngifkoopcmeaaGreatDoor
