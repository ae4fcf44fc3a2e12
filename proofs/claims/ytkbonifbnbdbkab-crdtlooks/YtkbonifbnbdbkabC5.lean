/-
  What Delta of package crdt tells.
-/
import Derived.Test.YtkbonifbnbdbkabC4
namespace Go.Proofs.Ytkbonifbnbdbkab
open Go.RowKit Go.Maps Go.Shelf

/-- One entry that another has: what it makes not lacking. -/
def deltaE (D : List Ent) (y : Ent) : List Ent := match gotC D y.key with | some x => if aboveE x y then D else D.filter (fun z => !(z.key == y.key)) | none => D
def deltaL (S l : List Ent) : List Ent := l.foldl deltaE S
/-- What is told by Delta: of a map the entries that are above all of their key. -/
def deltaS (S l : List Ent) : List Ent := S.filter fun x => l.all fun y => !(y.key == x.key) || aboveE x y
theorem RisingC.filter {S : List Ent} (h : RisingC S) (p : Ent → Bool) : RisingC (S.filter p) := List.Pairwise.filter p h
theorem deltaE_filter {S : List Ent} (hR : RisingC S) (p : Ent → Bool) (y : Ent) : deltaE (S.filter p) y = S.filter fun x => p x && (!(y.key == x.key) || aboveE x y) := by
  unfold deltaE
  have hR' := hR.filter p
  cases hg : gotC (S.filter p) y.key with
  | none =>
    have hno := gotC_none hg
    refine List.filter_congr fun x hx => ?_
    by_cases hp : p x = true
    · have : (y.key == x.key) = false := beq_eq_false_iff_ne.2 fun e => hno x (List.mem_filter.2 ⟨hx, hp⟩) e.symm
      simp [this]
    · simp [Bool.not_eq_true] at hp
      simp [hp]
  | some x0 =>
    obtain ⟨hx0, hk0⟩ := gotC_mem hg
    have hu : ∀ x ∈ S, p x = true → x.key = y.key → x = x0 := fun x hx hp e => key_injC hR' (List.mem_filter.2 ⟨hx, hp⟩) hx0 (e.trans hk0.symm)
    cases ha : aboveE x0 y with
    | true =>
      dsimp only
      rw [if_pos ha]
      refine List.filter_congr fun x hx => ?_
      by_cases hp : p x = true
      · by_cases e : x.key = y.key
        · rw [hu x hx hp e]
          simp [ha]
        · have : (y.key == x.key) = false := beq_eq_false_iff_ne.2 fun e' => e e'.symm
          simp [this]
      · simp [Bool.not_eq_true] at hp
        simp [hp]
    | false =>
      dsimp only
      rw [if_neg (by simp [ha]), List.filter_filter]
      refine List.filter_congr fun x hx => ?_
      by_cases hp : p x = true
      · by_cases e : x.key = y.key
        · rw [hu x hx hp e]
          simp [ha, hk0]
        · have h1 : (y.key == x.key) = false := beq_eq_false_iff_ne.2 fun e' => e e'.symm
          have h2 : (x.key == y.key) = false := beq_eq_false_iff_ne.2 e
          simp [h1, h2]
      · simp [Bool.not_eq_true] at hp
        simp [hp]
theorem deltaL_filter {S : List Ent} (hR : RisingC S) : ∀ (l : List Ent) (p : Ent → Bool), deltaL (S.filter p) l = S.filter fun x => p x && l.all fun y => !(y.key == x.key) || aboveE x y
  | [], p => by simp [deltaL]
  | y :: l, p => by
    show deltaL (deltaE (S.filter p) y) l = _
    rw [deltaE_filter hR, deltaL_filter hR l]
    refine List.filter_congr fun x _ => ?_
    rw [List.all_cons, Bool.and_assoc]
theorem deltaL_eq {S : List Ent} (hR : RisingC S) (l : List Ent) : deltaL S l = deltaS S l := by
  have := deltaL_filter hR l (fun _ => true)
  rw [List.filter_eq_self.2 (fun _ _ => rfl)] at this
  rw [this]
  unfold deltaS
  refine List.filter_congr fun x _ => ?_
  simp
theorem deltaL_succ (S : List Ent) (l : List Ent) (k : Nat) (hk : k < l.length) : deltaL S (l.take (k + 1)) = deltaE (deltaL S (l.take k)) l[k] := by
  unfold deltaL
  rw [List.take_succ_eq_append_getElem hk, List.foldl_append]
  rfl
theorem deltaE_sub {D : List Ent} {y x : Ent} (h : x ∈ deltaE D y) : x ∈ D := by
  unfold deltaE at h
  split at h
  · split at h
    · exact h
    · exact (List.mem_filter.1 h).1
  · exact h
theorem deltaE_len (D : List Ent) (y : Ent) : (deltaE D y).length ≤ D.length := by
  unfold deltaE
  split
  · split
    · exact Nat.le_refl _
    · exact List.length_filter_le _ _
  · exact Nat.le_refl _

theorem cClone_any (bm : Nat) (S : List Ent) (w : World) (hm : CMap w bm S) : Calls Try.prog 29 #[.map (some bm)] w fun e w' => e = .returned (.map (some w.heap.size)) ∧ CMap w' w.heap.size S ∧ CMap w' bm S ∧ Below w.heap.size w w' :=
  AnyW.maps_Clone_owns Try.lMClone 9 RVc bm S.length (datumC S) w hm

theorem CMap.drop {w : World} {b : Nat} {S : List Ent} (h : CMap w b S) {k : ByteArray} (hk : k.size ≤ maxLen) (ty : TypeId) :
    ∃ w', (Builtin.delete_ #[52, 9] ty #[.map (some b), .string k]).run Try.prog w = .ok (.tuple #[]) w' ∧ CMap w' b (S.filter fun y => !(y.key == k.data.toList)) ∧ w.grownBy w' (some b) := by
  obtain ⟨w', hrun, h1, h2⟩ := World.ownsMap.drop h lawC Try.underlying52 (keyOf_encC hk) ty
  rw [datumC_del] at h1
  exact ⟨w', hrun, CMap.of h1, h2.grown⟩
theorem wpList_dropC (w : World) {ops : Array Oper} {rest : List Oper} {o : Oper} {a : Act} {Q : Exit → Act → World → Prop} (hg : o.guard = none) (m k : Operand) (hop : o.op = Op.call { callee := Callee.builtin Builtin.delete, args := #[m, k], argTypes := #[52, 9] }) (b : Nat) (S : List Ent)
    (hm : a.eval m = .map (some b)) (h : CMap w b S) (kk : ByteArray) (hkl : kk.size ≤ maxLen) (hk : a.eval k = .string kk)
    (hK : ∀ w', CMap w' b (S.filter fun y => !(y.key == kk.data.toList)) → w.grownBy w' (some b) → wpList Try.prog ops Q rest (a.put o.dst (.tuple #[])) w') :
    wpList Try.prog ops Q (o :: rest) a w := by
  refine wpList_plain hg fun K' hK' => ?_
  obtain ⟨w', hrun, r1, r2⟩ := h.drop hkl o.type
  unfold Oper.wp
  simp [execOp, hop, resolve, invoke, builtin, hm, hk, hrun, Result.andThen]
  exact hK' _ _ (hK w' r1 r2)

set_option maxRecDepth 100000 in
set_option maxHeartbeats 4000000 in
theorem cDelta_any (sb bm : Nat) (S : List Ent) (a : Option Addr) (c : Nat) (l : List Ent) (w : World) (h : CAt w sb bm S) (he : EntsAt w a l) (hf : ∀ y ∈ l, y.k.size ≤ 9223372036854775807) (hl : l.length ≤ 9223372036854775807) (n : Nat) (hn : n = l.length) :
    Calls Try.prog 15 #[.pointer (some ⟨sb, 0, none⟩), .slice a n c] w fun e w' => ∃ v, e = .returned v ∧ OwnC w' w.heap.size v (deltaS S l) ∧ Below w.heap.size w w' := by
  have HN := Lib.hid hn
  have hn1 : n ≤ 9223372036854775807 := by omega
  have c0 := h.1.c0
  have HC := Lib.hid (cClone_any bm S w h.2.1)
  have HH := Lib.hid (And.intro h (And.intro he hf))
  clear hn h he hl hf
  go_enter Try.func15, Try.ntmps15
  go_wp2_with (go_at_call 29; refine HC.out.mono ?_; rintro e w1 ⟨rfl, m1, -, q1⟩; refine Hid.out ?_)
  refine Lib.hid ?_
  obtain ⟨h, he, hf⟩ := HH.out
  have he1 := he.on q1
  have HF := Lib.hid (And.intro hf (And.intro h.2.2 h.rising))
  have HQ := Lib.hid (And.intro m1 (And.intro he1 q1))
  clear h he hf he1 m1 q1 HC HH c0
  go_wp2
  go_loopw [19] (fun i wr => ∃ (k : Nat), k ≤ n ∧ i = .int .i64 k ∧ Hid (CMap wr w.heap.size (deltaL S (l.take k)) ∧ (∀ r ∈ deltaL S (l.take k), r ∈ S) ∧ (deltaL S (l.take k)).length ≤ S.length ∧ EntsAt wr a l ∧ Below w.heap.size w wr)) (fun i _ => n - (intOf i).toNat)
  case atStart => exact ⟨0, Nat.zero_le _, rfl, Lib.hid ⟨HQ.out.1, fun r hr => hr, Nat.le_refl _, HQ.out.2.1, HQ.out.2.2⟩⟩
  case round =>
    obtain ⟨k, hk, rfl, HK⟩ := hrel
    by_cases hlt : k < n
    · have hkl : (k : Int) < (n : Int) := by omega
      have hkx : k < l.length := by have := HN.out; omega
      obtain ⟨m1, hs1, hl1, he1, q1⟩ := HK.out
      obtain ⟨b, o, rfl, hb, c0, c1, c2, c3, c4⟩ := he1.cells k hkx
      have hyk : l[k].k.size ≤ 9223372036854775807 := HF.out.1 _ (List.getElem_mem hkx)
      have d2 := (Below.refl wr.heap.size wr).alloc (Nat.le_refl _) (.cells #[.string l[k].k, .int .i64 l[k].t, .int .u16 l[k].o, .string l[k].v, .int .i64 l[k].u] 36)
      have m2 := m1.below d2 m1.lt
      have he2 := he1.on d2
      have q2 := q1.trans (d2.mono q1.size)
      have z2 := EBlk.new wr l[k]
      have eS := deltaL_succ S l k hkx
      have s2 : (wr.alloc (.cells #[.string l[k].k, .int .i64 l[k].t, .int .u16 l[k].o, .string l[k].v, .int .i64 l[k].u] 36)).heap.size = wr.heap.size + 1 := by simp
      generalize hD : deltaL S (l.take k) = D at *
      generalize l[k] = y at *
      have hsub : ∀ r ∈ deltaE D y, r ∈ S := fun r hr => hs1 r (deltaE_sub hr)
      have hlen : (deltaE D y).length ≤ S.length := Nat.le_trans (deltaE_len D y) hl1
      have HS : Hid ((∀ r ∈ deltaL S (l.take (k + 1)), r ∈ S) ∧ (deltaL S (l.take (k + 1))).length ≤ S.length) := Lib.hid ⟨by rw [eS]; exact hsub, by rw [eS]; exact hlen⟩
      have hck : ∀ r ∈ D, checkEn r = 0 := fun r hr => HF.out.2.1.1 r (hs1 r hr)
      clear hs1 hl1 m1 he1 q1 hsub hlen hD HK
      cases hg : gotC D y.key with
      | none =>
        have hl := m2.look_no (k := y.k) (by unfold maxLen; omega) (gotC_none hg) true
        have eD : deltaE D y = D := by unfold deltaE; rw [hg]
        have d3 := d2.alloc d2.size (.cells #[.string ⟨#[]⟩, .int .i64 0, .int .u16 0, .string ⟨#[]⟩, .int .i64 0] 36)
        have d3' := (Below.refl _ (wr.alloc (.cells #[.string y.k, .int .i64 y.t, .int .u16 y.o, .string y.v, .int .i64 y.u] 36))).alloc (Nat.le_refl _) (.cells #[.string ⟨#[]⟩, .int .i64 0, .int .u16 0, .string ⟨#[]⟩, .int .i64 0] 36)
        have HR : Hid (CMap ((wr.alloc (.cells #[.string y.k, .int .i64 y.t, .int .u16 y.o, .string y.v, .int .i64 y.u] 36)).alloc (.cells #[.string ⟨#[]⟩, .int .i64 0, .int .u16 0, .string ⟨#[]⟩, .int .i64 0] 36)) w.heap.size (deltaL S (l.take (k + 1))) ∧ EntsAt ((wr.alloc (.cells #[.string y.k, .int .i64 y.t, .int .u16 y.o, .string y.v, .int .i64 y.u] 36)).alloc (.cells #[.string ⟨#[]⟩, .int .i64 0, .int .u16 0, .string ⟨#[]⟩, .int .i64 0] 36)) (some ⟨b, o, none⟩) l ∧ Below w.heap.size w ((wr.alloc (.cells #[.string y.k, .int .i64 y.t, .int .u16 y.o, .string y.v, .int .i64 y.u] 36)).alloc (.cells #[.string ⟨#[]⟩, .int .i64 0, .int .u16 0, .string ⟨#[]⟩, .int .i64 0] 36))) := Lib.hid ⟨by rw [eS, eD]; exact m2.below d3' m2.lt, he2.on d3', q2.trans (d3'.mono q2.size)⟩
        have hl' : (Instr.lookup 52 (.map (some w.heap.size)) (.string y.k) true).run Try.prog (wr.alloc (.cells #[.string y.k, .int .i64 y.t, .int .u16 y.o, .string y.v, .int .i64 y.u] 36)) = .ok (.tuple #[.agg #[.string ⟨#[]⟩, .int .i64 0, .int .u16 0, .string ⟨#[]⟩, .int .i64 0], .bool false]) (wr.alloc (.cells #[.string y.k, .int .i64 y.t, .int .u16 y.o, .string y.v, .int .i64 y.u] 36)) := hl
        clear hl d2 m2 he2 q2 z2 eS s2 hg eD d3 d3' hck
        obtain ⟨ky, ty, oy, vy, uy⟩ := y
        dsimp only at c0 c1 c2 c3 c4 hl' HR
        go_wp2
        go_roundw
        case rel => exact ⟨k + 1, by omega, by go_num, Lib.hid ⟨HR.out.1, HS.out.1, HS.out.2, HR.out.2.1, HR.out.2.2⟩⟩
        case measure => simp [intOf]; omega
      | some x =>
        obtain ⟨hx, hxk⟩ := gotC_mem hg
        have hl0 := m2.look_yes hx (key_fits (hck x hx)) true
        have exk : x.k = y.k := bytes_ext hxk
        rw [exk] at hl0
        have hl : (Instr.lookup 52 (.map (some w.heap.size)) (.string y.k) true).run Try.prog (wr.alloc (.cells #[.string y.k, .int .i64 y.t, .int .u16 y.o, .string y.v, .int .i64 y.u] 36)) = .ok (.tuple #[.agg #[.string x.k, .int .i64 x.t, .int .u16 x.o, .string x.v, .int .i64 x.u], .bool true]) (wr.alloc (.cells #[.string y.k, .int .i64 y.t, .int .u16 y.o, .string y.v, .int .i64 y.u] 36)) := hl0
        have d3 := (Below.refl _ (wr.alloc (.cells #[.string y.k, .int .i64 y.t, .int .u16 y.o, .string y.v, .int .i64 y.u] 36))).alloc (Nat.le_refl _) (.cells #[.string x.k, .int .i64 x.t, .int .u16 x.o, .string x.v, .int .i64 x.u] 36)
        have x3 := EBlk.new (wr.alloc (.cells #[.string y.k, .int .i64 y.t, .int .u16 y.o, .string y.v, .int .i64 y.u] 36)) x
        rw [s2] at x3
        have z3 := z2.on d3
        have m3 := m2.below d3 m2.lt
        have he3 := he2.on d3
        have q3 := q2.trans (d3.mono q2.size)
        have HA := Lib.hid (eAbove_any x y ((wr.alloc (.cells #[.string y.k, .int .i64 y.t, .int .u16 y.o, .string y.v, .int .i64 y.u] 36)).alloc (.cells #[.string x.k, .int .i64 x.t, .int .u16 x.o, .string x.v, .int .i64 x.u] 36)))
        have HZ := Lib.hid (And.intro z3 (And.intro m3 (And.intro he3 q3)))
        have hyk' : y.k.size ≤ maxLen := by unfold maxLen; omega
        have eD : deltaE D y = if aboveE x y then D else D.filter (fun z => !(z.key == y.key)) := by unfold deltaE; rw [hg]
        clear hl0 d2 m2 he2 q2 z2 s2 hg d3 x3 z3 m3 he3 q3 hck hx hxk exk
        cases ha : aboveE x y with
        | true =>
          rw [ha] at eD HA
          have HE : Hid (deltaL S (l.take (k + 1)) = D) := Lib.hid (eS.trans eD)
          clear eD eS ha
          obtain ⟨kx, tx, ox, vx, ux⟩ := x
          obtain ⟨ky, ty, oy, vy, uy⟩ := y
          dsimp only at c0 c1 c2 c3 c4 hl HA HZ
          go_wp2_with (go_at_call 30; refine HA.out.mono ?_; rintro e w4 ⟨rfl, q4⟩; refine Hid.out ?_)
          refine Lib.hid ?_
          obtain ⟨-, m3, he3, q3⟩ := HZ.out
          have HR : Hid (CMap w4 w.heap.size (deltaL S (l.take (k + 1))) ∧ EntsAt w4 (some ⟨b, o, none⟩) l ∧ Below w.heap.size w w4) := Lib.hid ⟨by rw [HE.out]; exact m3.below q4 m3.lt, he3.on q4, q3.trans (q4.mono q3.size)⟩
          clear m3 he3 q3 q4 HZ HA hl c0 c1 c2 c3 c4
          go_wp2
          go_roundw
          case rel => exact ⟨k + 1, by omega, by go_num, Lib.hid ⟨HR.out.1, HS.out.1, HS.out.2, HR.out.2.1, HR.out.2.2⟩⟩
          case measure => simp [intOf]; omega
        | false =>
          rw [ha, if_neg (by decide)] at eD
          rw [ha] at HA
          have HE : Hid (deltaL S (l.take (k + 1)) = D.filter (fun z => !(z.key == y.k.data.toList))) := Lib.hid (eS.trans eD)
          clear eD eS ha
          obtain ⟨kx, tx, ox, vx, ux⟩ := x
          obtain ⟨ky, ty, oy, vy, uy⟩ := y
          dsimp only at c0 c1 c2 c3 c4 hl HA HZ hyk' HE
          go_wp2_with (go_at_call 30; refine HA.out.mono ?_; rintro e w4 ⟨rfl, q4⟩; refine Hid.out ?_)
          refine Lib.hid ?_
          obtain ⟨z3, m3, he3, q3⟩ := HZ.out
          have z4 := z3.on q4
          have m4 := m3.below q4 m3.lt
          have k0 := z4.c0
          dsimp only at k0
          have HY := Lib.hid (And.intro (he3.on q4) (q3.trans (q4.mono q3.size)))
          clear z3 m3 he3 q3 q4 z4 HZ HA hl c0 c1 c2 c3 c4
          go_wp2_with (first
            | (at_delete; refine wpList_dropC _ rfl _ _ rfl w.heap.size D rfl m4 ky hyk' rfl ?_; intro w5 m5 g5; refine Hid.out ?_)
            | go_in)
          refine Lib.hid ?_
          have HR : Hid (CMap w5 w.heap.size (deltaL S (l.take (k + 1))) ∧ EntsAt w5 (some ⟨b, o, none⟩) l ∧ Below w.heap.size w w5) := Lib.hid ⟨by rw [HE.out]; exact m5, HY.out.1.turn g5 m4, HY.out.2.grown g5 HY.out.2.size (fun j hj => by cases hj; exact Nat.le_refl _)⟩
          clear m4 m5 g5 k0 HY
          go_wp2
          go_roundw
          case rel => exact ⟨k + 1, by omega, by go_num, Lib.hid ⟨HR.out.1, HS.out.1, HS.out.2, HR.out.2.1, HR.out.2.2⟩⟩
          case measure => simp [intOf]; omega
    · have hkl : ¬ (k : Int) < (n : Int) := by omega
      have hm : CMap wr w.heap.size (deltaS S l) ∧ (∀ r ∈ deltaS S l, checkEn r = 0) ∧ (deltaS S l).length ≤ 256 ∧ Below w.heap.size w wr := by
        have e : l.take k = l := List.take_of_length_le (by have := HN.out; omega)
        obtain ⟨h1, h2, h3, -, h5⟩ := HK.out
        rw [e, deltaL_eq HF.out.2.2] at h1 h2 h3
        exact ⟨h1, fun r hr => HF.out.2.1.1 r (h2 r hr), Nat.le_trans h3 HF.out.2.1.2, h5⟩
      have HB := Lib.hid (cByKeys_any _ _ wr hm.1 hm.2.1 hm.2.2.1)
      have HQ5 := Lib.hid hm.2.2.2
      clear HK hm
      go_wp2_with (go_at_call 31; refine HB.out.mono ?_; rintro e w6 ⟨v, rfl, ho, q6⟩; refine Hid.out ?_)
      refine Lib.hid ?_
      have HR := Lib.hid (And.intro (ho.base HQ5.out.size) (HQ5.out.trans (q6.mono HQ5.out.size)))
      clear ho q6 HQ5 HB
      go_wp2
      go_ret
      exact ⟨_, rfl, HR.out.1, HR.out.2⟩

end Go.Proofs.Ytkbonifbnbdbkab
