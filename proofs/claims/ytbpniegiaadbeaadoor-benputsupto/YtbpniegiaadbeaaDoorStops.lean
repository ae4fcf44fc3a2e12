/-
  BenStops, walked: it answers true for every bytes and every calls, and turns nothing that was there.
-/
import Derived.Test.YtbpniegiaadbeaaDoorAwake
import Derived.Deep.AppendSrc
import Derived.Deep.RegionWith
namespace Go.Proofs.YtbpniegiaadbeaaDoor
open Go.RowKit

/-- append, where what it does is known. -/
theorem wpList_append_known {P : Program} {w : World} {ops : Array Oper} {rest : List Oper} {o : Oper} {a : Act} {Q : Exit → Act → World → Prop} (hgd : o.guard = none) (s x : Operand) (t : TypeId)
    (ho : o.op = .call { callee := .builtin .append, args := #[s, x], argTypes := #[t, t] }) (v y v' : Value) (w' : World) (hs : a.eval s = v) (hx : a.eval x = y)
    (hrun : ∀ ty, (Builtin.append_ #[t, t] ty #[v, y]).run P w = .ok v' w')
    (h : wpList P ops Q rest (a.put o.dst v') w') : wpList P ops Q (o :: rest) a w := by
  refine wpList_plain hgd fun K hK => ?_
  unfold Oper.wp execOp
  simp only [ho, resolve, invoke, builtin, Sem.run_bind, Sem.run_pure, Result.andThen_ok, List.map_toArray, List.map_cons, List.map_nil, hs, hx, hrun]
  exact hK _ _ h

/-- append of bytes to one byte whose row has no room. -/
theorem append_one (w : World) (bk : Nat) (x : UInt8) (hx : w.cell? ⟨bk, 0, none⟩ = some (.int .u8 x.toNat)) (v : Value) (l : List UInt8) (hs : SrcAt w v l) (hl : l.length ≤ 140737488355327) :
    ∃ a c w', (∀ ty, (Builtin.append_ #[23, 23] ty #[.slice (some ⟨bk, 0, none⟩) 1 1, v]).run Tryd.prog w = .ok (.slice (some a) (l.length + 1) c) w') ∧ SrcAt w' (.slice (some a) (l.length + 1) c) (x :: l) ∧ Below w.heap.size w w' := by
  obtain ⟨i0, hi, hz0, hz1, hz2⟩ := info_parts infoByte
  have hsrc : Src Tryd.prog i0.size 23 v l.length (Lib.byteCells l) w := by
    rw [hz1]
    rcases hs with ⟨rfl, rfl⟩ | ⟨q, c, rfl, hc⟩
    · exact Src.ofNil w Tryd.underlying23 0
    · refine Src.ofSlice w Tryd.underlying23 q l.length c (Lib.byteCells l) (by simp [Lib.byteCells]) ?_ ?_
      · intro j u' hj
        simp only [Lib.byteCells, List.getElem?_map, Option.map_eq_some_iff] at hj
        obtain ⟨y, hy, rfl⟩ := hj
        obtain ⟨hj1, rfl⟩ := List.getElem?_eq_some_iff.1 hy
        exact hc j hj1
      · intro u' hu'; simp only [Lib.byteCells, List.mem_map] at hu'; obtain ⟨y, _, rfl⟩ := hu'; rfl
  cases l with
  | nil =>
    refine ⟨⟨bk, 0, none⟩, 1, w, fun ty => ?_, .inr ⟨⟨bk, 0, none⟩, 1, rfl, fun i hi => ?_⟩, Below.refl _ _⟩
    · have := run_append_room_src w 23 23 ty 5 i0 Tryd.underlying23 hi bk 0 1 1 v 0 [] hsrc (by omega) (fun j hj => absurd hj (by simp)) (fun j hj => absurd hj (by simp))
      simpa [World.setCells] using this
    · match i, hi with
      | 0, _ => simpa [Addr.add] using hx
  | cons y l =>
    obtain ⟨C, hC⟩ : ∃ C, C = grownCap w (1 + (y :: l).length) 1 5 := ⟨_, rfl⟩
    refine ⟨⟨w.heap.size, 0, none⟩, C, w.drew.alloc (.cells (([Value.int .u8 x.toNat] ++ Lib.byteCells (y :: l)).toArray ++ Builtin.zeroCells (Value.int .u8 0).cells (C - ((y :: l).length + 1))) 5), fun ty => ?_, .inr ⟨⟨w.heap.size, 0, none⟩, C, rfl, fun i hi => ?_⟩, (Below.refl _ _).drew.alloc (Nat.le_refl _) _⟩
    · have := run_append_grow_src w 23 23 ty 5 i0 (.int .u8 0) Tryd.underlying23 hi hz0 (some ⟨bk, 0, none⟩) 1 1 [.int .u8 x.toNat] (by
        rw [hz1]
        exact run_firstCells_some w.drew 1 1 ⟨bk, 0, none⟩ 1 1 [.int .u8 x.toNat] rfl (by intro j u hj; match j, hj with | 0, hj => simp at hj; subst hj; simpa [Addr.add] using hx)) v (y :: l).length _ hsrc (by simp) (by simp at hl ⊢; omega) (growslice_fits (by simp) (by rw [hz2]; simp at hl ⊢; omega))
      rw [← hC, Nat.add_comm 1] at this
      exact this
    · rw [Go.WideShapes.add_plain, Nat.zero_add, show w.heap.size = w.drew.heap.size from rfl, World.cell?_alloc_mark]
      have hlen : i < ([Value.int .u8 x.toNat] ++ Lib.byteCells (y :: l)).length := by simp [Lib.byteCells] at hi ⊢; omega
      rw [Array.getElem?_append_left (by simpa using hlen)]
      match i, hi with
      | 0, _ => rfl
      | i + 1, hi =>
        simp only [List.length_cons] at hi
        have hi2 : i < (y :: l).length := by simp; omega
        rw [List.getElem?_toArray]
        show (Lib.byteCells (y :: l))[i]? = some (.int .u8 ((y :: l)[i].toNat : Int))
        unfold Lib.byteCells
        rw [List.getElem?_map, List.getElem?_eq_getElem hi2]
        rfl

set_option maxHeartbeats 1000000 in
set_option maxRecDepth 100000 in
theorem stops_walk (vb : Value) (lb : List UInt8) (la : Option Addr) (ln lc : Nat) (M : Nat → Int) (w : World) (hsrc : SrcAt w vb lb) (hlb : lb.length ≤ 140737488351232) (hln : ln ≤ maxLen)
    (hl : ∀ i, i < ln → ∃ b o, la = some ⟨b, o, none⟩ ∧ w.cell? ⟨b, o + i * 2 + 1, none⟩ = some (.int .i64 (M i))) (hv : VarsOk w.heap.size w) :
    Calls Tryd.prog 7 #[vb, .slice la ln lc] w fun e w' => e = .returned (.bool true) ∧ Below w.heap.size w w' := by
  unfold maxLen at hln
  have kc := fun (w : World) (C : Array Value) (n c : Nat) => Lib.run_convert_bytes_const (P := Tryd.prog) w 23 5 C n c Tryd.underlying23 Tryd.underlying5
  have hb0 : Below w.heap.size w (w.alloc (.cells #[.int .u8 120] 5 (1, 2))) := (Below.refl _ _).alloc (Nat.le_refl _) _
  obtain ⟨qa, qc, w1, hap, hs1, hb1⟩ := append_one (w.alloc (.cells #[.int .u8 120] 5 (1, 2))) w.heap.size 120 (by rw [World.cell?_alloc_mark]; rfl) vb lb (hsrc.below hb0 (Nat.le_refl _)) (by omega)
  have hn1 : Below w.heap.size w w1 := hb0.trans (hb1.mono (by simp))
  have HN := Lib.hid (New_any _ _ _ hs1 (by simp; omega))
  clear hs1 hb0 hb1
  obtain ⟨va, vn, vc, rfl⟩ : ∃ a n c, vb = .slice a n c := by rcases hsrc with ⟨rfl, _⟩ | ⟨q, c, rfl, _⟩ <;> exact ⟨_, _, _, rfl⟩
  clear hsrc
  have HA := Lib.hid hap
  clear hap
  go_enter Tryd.func7, Tryd.ntmps7
  go_wp2_with (first | (at_builtin; refine wpList_append_known rfl _ _ 23 rfl _ _ _ _ rfl rfl HA.out ?_) | (go_at_call 16; refine HN.out.mono ?_; rintro e w2 ⟨rb, a2, c2, rfl, hrd2, hrb, hal, hb2⟩; refine Hid.out ?_))
  refine Lib.hid ?_
  have hs2 := hn1.size
  have hn2 : Below w.heap.size w w2 := hn1.trans (hb2.mono hs2)
  have hv2 := hv.on hn2
  clear kc
  go_wp2_with (go_at_call 22; refine (rInt_any rb a2 c2 _ w.heap.size _ hrd2 (by omega) hv2).mono ?_; rintro e w3 ⟨rfl, ⟨a3, c3, hrd3⟩, hg3⟩; refine Hid.out ?_)
  refine Lib.hid ?_
  have e3 : rdInt (120 :: lb) = ([], 4, 0) := by simp [rdInt]
  rw [e3] at hrd3
  rw [e3]
  clear e3
  have hs3 := hg3.size
  have hn3 : Below w.heap.size w w3 := hn2.trans (below_of_grownBy hg3 (by omega) (by have := hn2.size; omega))
  have hv3 := hv.on hn3
  have hl3 : ∀ i, i < ln → ∃ b o, la = some ⟨b, o, none⟩ ∧ w3.cell? ⟨b, o + i * 2 + 1, none⟩ = some (.int .i64 (M i)) := fun i hi => by
    obtain ⟨b, o, rfl, hc⟩ := hl i hi
    exact ⟨b, o, rfl, by rw [hn3.cell (p := ⟨b, o + i * 2 + 1, none⟩) (World.block_lt_of_cell? w _ hc)]; exact hc⟩
  have HL := Lib.hid hl3
  have HW := Lib.hid hn3
  have HV := Lib.hid hv3
  clear hl hl3 hn3 hv3 hrd2 hg3 hn2 hv2 hb2 hal hrb hs3 hs2 hn1 HN hv HA
  go_wp2_with (go_at_call 18; refine (Err_any rb a3 c3 _ _ _ hrd3).mono ?_; rintro e w4 ⟨rfl, rfl⟩)
  go_loop [7] (fun i => ∃ k : Nat, k ≤ ln ∧ i = .int .i64 k) (fun i => ln - (intOf i).toNat)
  case atStart => exact ⟨0, Nat.zero_le _, rfl⟩
  case round =>
    obtain ⟨k, hk, rfl⟩ := hrel
    by_cases hlt : k < ln
    · obtain ⟨b, o, rfl, hc⟩ := HL.out k hlt
      generalize M k = m at hc
      go_wp2_with (first
        | (go_at_call_of 20 (none : Option Addr); refine (Open_nil _).mono ?_; rintro e w5 ⟨rfl, rfl⟩)
        | (go_at_call_of 20 rb; refine (Open_err rb a3 c3 _ _ _ hrd3 (by decide)).mono ?_; rintro e w5 ⟨rfl, rfl⟩)
        | (go_at_call_of 22 (none : Option Addr); refine (rInt_nil _).mono ?_; rintro e w5 ⟨rfl, rfl⟩)
        | (go_at_call_of 22 rb; refine (rInt_err rb a3 c3 _ _ _ hrd3 (by decide)).mono ?_; rintro e w5 ⟨rfl, rfl⟩)
        | (go_at_call_of 23 (none : Option Addr); refine (rText_nil m _).mono ?_; rintro e w5 ⟨rfl, rfl⟩)
        | (go_at_call_of 23 rb; refine (rText_err rb a3 c3 _ _ m _ hrd3 (by decide)).mono ?_; rintro e w5 ⟨rfl, rfl⟩)
        | (go_at_call_of 21 (none : Option Addr); refine (More_nil _).mono ?_; rintro e w5 ⟨rfl, rfl⟩)
        | (go_at_call_of 21 rb; refine (More_any rb a3 c3 _ _ _ hrd3).mono ?_; rintro e w5 ⟨rfl, rfl⟩)
        | (go_at_call_of 19 (none : Option Addr); refine (Left_nil _).mono ?_; rintro e w5 ⟨rfl, rfl⟩)
        | (go_at_call_of 19 rb; refine (Left_any rb a3 c3 _ _ _ hrd3).mono ?_; rintro e w5 ⟨rfl, rfl⟩)
        | (go_at_call_of 18 rb; refine (Err_any rb a3 c3 _ _ _ hrd3).mono ?_; rintro e w5 ⟨rfl, rfl⟩)
        | (go_at_call_of 24 (none : Option Addr); refine (Close_nil _).mono ?_; rintro e w5 ⟨rfl, rfl⟩)
        | (go_at_call_of 24 rb; refine (Close_err rb a3 c3 _ _ _ hrd3 (by decide)).mono ?_; rintro e w5 ⟨rfl, rfl⟩))
      go_round
      case rel => exact ⟨k + 1, by omega, by go_num⟩
      case measure => simp [intOf]; omega
    · go_wp2_with (first
        | (go_at_call_of 18 (none : Option Addr); refine (Err_nil _).mono ?_; rintro e w5 ⟨rfl, rfl⟩)
        | (go_at_call_of 18 rb; refine (Err_any rb a3 c3 _ _ _ hrd3).mono ?_; rintro e w5 ⟨rfl, rfl⟩)
        | (go_at_call 15; refine (awake_any w.heap.size _ HW.out.size HV.out).mono ?_; rintro e w5 ⟨rfl, hb5⟩))
      go_ret
      exact ⟨rfl, HW.out.trans (hb5.mono HW.out.size)⟩

end Go.Proofs.YtbpniegiaadbeaaDoor
