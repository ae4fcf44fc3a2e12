/-
  Maps of entries, plainly: a map is a list of entries by rising keys, and that list is what its block reads as. What a map's calls do, in these words.
-/
import Derived.Test.YtkbonifbnbdbkabE3
import Derived.Maps.OwnSet
import Derived.Maps.RangeWalk
import Derived.Maps.Ext
import Derived.Sort.KeysCollected
namespace Go.Proofs.Ytkbonifbnbdbkab
open Go.RowKit Go.Maps

/-- The key of an entry, as bytes. -/
def Ent.key (x : Ent) : List UInt8 := x.k.data.toList
def RVc (v : Value) : Option (DataW Value × List MemPlace) := some (.held v, [])
def entC (r : Ent) : Lit × DataW Value := (.string r.key, .held r.val)
def datumC (S : List Ent) : DataW Value := .map (S.map entC)
/-- By rising keys. -/
def RisingC (S : List Ent) : Prop := S.Pairwise fun x y => x.key < y.key

theorem before_iffC : ∀ (a b : List UInt8), bytesBefore a b = true ↔ a < b
  | [], [] => by simp [bytesBefore]
  | [], _ :: _ => by simp [bytesBefore]
  | _ :: _, [] => by simp [bytesBefore]
  | a :: r, b :: s => by
    have ih := before_iffC r s
    rw [bytesBefore, List.cons_lt_cons_iff, Bool.or_eq_true, Bool.and_eq_true, ih]
    simp
theorem key_irreflC (a : List UInt8) : ¬ a < a := fun h => by
  have := (before_iffC a a).2 h
  rw [WideAt.bytes_irrefl] at this
  cases this
theorem key_transC {a b c : List UInt8} (h1 : a < b) (h2 : b < c) : a < c := (before_iffC a c).1 (Go.WideShapes.bytes_trans a b c ((before_iffC a b).2 h1) ((before_iffC b c).2 h2))
theorem key_totalC {a b : List UInt8} (h : a ≠ b) : a < b ∨ b < a := by
  rcases WideAt.bytes_total a b h with h1 | h1
  · exact .inl ((before_iffC a b).1 h1)
  · exact .inr ((before_iffC b a).1 h1)
theorem key_asymmC {a b : List UInt8} (h1 : a < b) : ¬ b < a := fun h2 => key_irreflC a (key_transC h1 h2)

def insC (x : Ent) : List Ent → List Ent
  | [] => [x]
  | y :: l => if x.key < y.key then x :: y :: l else y :: insC x l
/-- Another entry in the place of the one with its key, if there is one. -/
def putC (x : Ent) (S : List Ent) : List Ent := insC x (S.filter fun y => !(y.key == x.key))

theorem entC_ins (x : Ent) : ∀ S : List Ent, DataW.insert (entC x) (S.map entC) = (insC x S).map entC
  | [] => rfl
  | y :: l => by
    rw [List.map_cons, DataW.insert, insC]
    have e : (entC x).1.before (entC y).1 = bytesBefore x.key y.key := rfl
    rw [e]
    by_cases h : x.key < y.key
    · rw [if_pos h, if_pos ((before_iffC _ _).2 h)]; rfl
    · rw [if_neg h, if_neg (fun h' => h ((before_iffC _ _).1 h')), entC_ins x l]; rfl
theorem datumC_put (x : Ent) (S : List Ent) : (datumC S).put (.string x.key) (.held x.val) = datumC (putC x S) := by
  show DataW.map (DataW.insert (entC x) ((S.map entC).filter fun p => !p.1.sameKey (.string x.key))) = _
  rw [List.filter_map, entC_ins]
  rfl
theorem datumC_del (S : List Ent) (k : List UInt8) : (datumC S).del (.string k) = datumC (S.filter fun y => !(y.key == k)) := by
  show DataW.map ((S.map entC).filter fun p => !p.1.sameKey (.string k)) = _
  rw [List.filter_map]
  rfl
theorem datumC_size (S : List Ent) : Maps.size (datumC S) = S.length := by simp [datumC, Maps.size]
theorem datumC_keys (S : List Ent) : strKeys (datumC S) = S.map Ent.key := by
  show (S.map entC).map (fun p => Go.strOf p.1) = _
  rw [List.map_map]
  rfl
theorem datumC_has (S : List Ent) (k : List UInt8) : Maps.has (datumC S) (.string k) = S.any fun y => y.key == k := by
  show (S.map entC).any (fun p => p.1.sameKey (.string k)) = _
  rw [List.any_map]
  rfl
theorem find_keyC {S : List Ent} (h : RisingC S) {r : Ent} (hr : r ∈ S) : S.find? (fun y => y.key == r.key) = some r := by
  induction S with
  | nil => cases hr
  | cons y l ih =>
    rw [List.find?_cons]
    rcases List.mem_cons.1 hr with rfl | hr'
    · simp
    · have hlt := (List.pairwise_cons.1 h).1 r hr'
      have hne : (y.key == r.key) = false := by
        rw [beq_eq_false_iff_ne]
        intro e
        rw [e] at hlt
        exact key_irreflC _ hlt
      rw [hne]
      exact ih (List.pairwise_cons.1 h).2 hr'
theorem datumC_at {S : List Ent} (h : RisingC S) {r : Ent} (hr : r ∈ S) (z : DataW Value) : (datumC S).atKey (.string r.key) z = .held r.val := by
  have e : (S.map entC).find? (fun p => p.1.sameKey (.string r.key)) = some (entC r) := by
    rw [List.find?_map]
    show Option.map entC (S.find? fun y => y.key == r.key) = _
    rw [find_keyC h hr]
    rfl
  unfold datumC DataW.atKey
  simp only [e]
  rfl
theorem key_injC {S : List Ent} (h : RisingC S) {r s : Ent} (hr : r ∈ S) (hs : s ∈ S) (e : r.key = s.key) : r = s := by
  have h1 := find_keyC h hr
  rw [e, find_keyC h hs] at h1
  exact (Option.some.inj h1).symm

/-- Block b is the map of a map. -/
def CMap (w : World) (b : Nat) (S : List Ent) : Prop := w.ownsMap Try.prog 9 RVc b S.length (datumC S)
theorem lawC : Keyed Try.prog 9 := string_keyed Try.underlying9
theorem zeroEl (w : World) : (zeroValue 36).run Try.prog w = .ok zeroE.val w := by kernel_rfl

theorem CMap.of {w : World} {b n : Nat} {S : List Ent} (h : w.ownsMap Try.prog 9 RVc b n (datumC S)) : CMap w b S := by
  obtain ⟨es, clock, hb, F, hs, hD⟩ := h
  refine ⟨es, clock, hb, F, ?_, hD⟩
  have e : Maps.size (datumC S) = es.size := by rw [hD]; simp [Maps.size, length_sorted]
  rw [datumC_size] at e
  omega
theorem CMap.rising {w : World} {b : Nat} {S : List Ent} (h : CMap w b S) : RisingC S := by
  obtain ⟨es, e, hp, -⟩ := World.ownsMap.canon h lawC
  obtain rfl : S.map entC = es := by simpa [datumC] using e
  rw [List.pairwise_map] at hp
  exact hp.imp fun {x y} hxy => (before_iffC _ _).1 hxy
theorem CMap.lt {w : World} {b : Nat} {S : List Ent} (h : CMap w b S) : b < w.heap.size := World.ownsMap.lt h
theorem CMap.kept {w w' : World} {b : Nat} {S : List Ent} {row : Option Nat} (h : CMap w b S) (hg : w.grownBy w' row) (hne : some b ≠ row) : CMap w' b S := World.ownsMap.kept h hg hne
theorem CMap.below {w w' : World} {b B : Nat} {S : List Ent} (h : CMap w b S) (hb : Below B w w') (hB : b < B) : CMap w' b S := by
  obtain ⟨es, clock, hh, F, hs, hD⟩ := h
  exact ⟨es, clock, (hb.block b hB).trans hh, F, hs, hD⟩
theorem CMap.made (w : World) : CMap (w.alloc (.map #[] 0)) w.heap.size [] := World.ownsMap_made w Try.prog 9 RVc
theorem CMap.size {w : World} {b : Nat} {S : List Ent} (h : CMap w b S) : ∀ ty, (Builtin.len_ #[52] ty #[.map (some b)]).run Try.prog w = .ok (.int .i64 (S.length : Int)) w := fun ty => by
  have := World.ownsMap.len h Try.underlying52 ty
  rwa [datumC_size] at this
theorem keyOf_encC {k : ByteArray} (hk : k.size ≤ maxLen) : keyOf Try.prog 9 (.string k) = some (.string k.data.toList) := by
  have := Go.WideMaps.keyOf_string_mk (P := Try.prog) Try.underlying9 (s := k) (by exact hk)
  simpa using this
theorem keyOf_entC {x : Ent} (hk : x.k.size ≤ maxLen) : keyOf Try.prog 9 (.string x.k) = some (.string x.key) := keyOf_encC hk
theorem CMap.look_yes {w : World} {b : Nat} {S : List Ent} (h : CMap w b S) {r : Ent} (hr : r ∈ S) (hk : r.k.size ≤ maxLen) (c : Bool) :
    (Instr.lookup 52 (.map (some b)) (.string r.k) c).run Try.prog w = .ok (if c then .tuple #[r.val, .bool true] else r.val) w := by
  have hR := CMap.rising h
  obtain ⟨es, clock, hb, F, hs, hD⟩ := h
  rcases Maps.fit_look c lawC Try.underlying52 (zeroEl w) hb F (keyOf_entC hk) with ⟨-, -, hat⟩ | ⟨e0, y, -, -, hrun, hv, hat, -⟩
  · have h1 := hat .nil
    rw [← hD, datumC_at hR hr] at h1
    cases h1
  · have h1 := hat .nil
    rw [← hD, datumC_at hR hr] at h1
    have h2 : y = (.held e0.val, []) := by simpa [RVc] using hv.symm
    rw [h2] at h1
    have h3 : r.val = e0.val := DataW.held.inj h1
    rw [h3]
    exact hrun
theorem CMap.look_no {w : World} {b : Nat} {S : List Ent} (h : CMap w b S) {k : ByteArray} (hk : k.size ≤ maxLen) (hno : ∀ r ∈ S, r.key ≠ k.data.toList) (c : Bool) :
    (Instr.lookup 52 (.map (some b)) (.string k) c).run Try.prog w = .ok (if c then .tuple #[zeroE.val, .bool false] else zeroE.val) w := by
  obtain ⟨es, clock, hb, F, hs, hD⟩ := h
  rcases Maps.fit_look c lawC Try.underlying52 (zeroEl w) hb F (keyOf_encC hk) with ⟨hrun, -, -⟩ | ⟨e0, y, -, -, hrun, hv, hat, -⟩
  · exact hrun
  · have h1 := Maps.has_true_of_atKey hat
    rw [← hD, datumC_has, List.any_eq_true] at h1
    obtain ⟨r, hr, e⟩ := h1
    exact absurd (by simpa using e) (hno r hr)
theorem CMap.put {w : World} {b : Nat} {S : List Ent} (h : CMap w b S) (x : Ent) (hk : x.k.size ≤ maxLen) (hn : S.length < maxLen) :
    ∃ w', (Instr.mapUpdate 52 (.map (some b)) (.string x.k) x.val).run Try.prog w = .ok () w' ∧ CMap w' b (putC x S) ∧ w.grownBy w' (some b) := by
  obtain ⟨w', hrun, h1, h2⟩ := World.ownsMap.update h lawC Try.underlying52 hn (keyOf_entC hk) (show RVc x.val = some (.held x.val, []) from rfl)
  rw [datumC_put] at h1
  exact ⟨w', hrun, CMap.of h1, h2⟩

/-- A store into a map's block, as a step of a region that draws its order. -/
theorem step_putR {w : World} {ops : Array Oper} {o : Oper} {act : Act} {K : Act → World → Prop} {Q : Exit → Act → World → Prop} {E : Prop} (hgd : o.guard = none) (m k v : Operand) (ho : o.op = .mapUpdate 52 m k v)
    {b : Nat} {S : List Ent} (h : CMap w b S) (x : Ent) (hk : x.k.size ≤ maxLen) (hn : S.length < maxLen) (em : act.eval m = .map (some b)) (ek : act.eval k = .string x.k) (ev : act.eval v = x.val)
    (hK : ∀ w', CMap w' b (putC x S) → w.grownBy w' (some b) → K (act.put o.dst undef) w') :
    if Region.wanted o (yielded ops act.tmps) = true then Oper.wp Try.prog o act w K Q else E := by
  have hw : Region.wanted o (yielded ops act.tmps) = true := by simp [Region.wanted, hgd]
  rw [if_pos hw]
  obtain ⟨w', hr, h1, h2⟩ := h.put x hk hn
  unfold Oper.wp
  simp [execOp, ho, em, ek, ev, hr, Result.andThen]
  exact hK w' h1 h2

/-- A range over a map's block under way: S are its entries, left tells which are still to come. -/
def CRange (w : World) (b r : Nat) (S : List Ent) (left : Lit → Bool) (cnt : Nat) : Prop := w.ranges Try.prog 9 RVc b r S.length (datumC S) left cnt
theorem CRange.map {w : World} {b r : Nat} {S : List Ent} {left : Lit → Bool} {cnt : Nat} (h : CRange w b r S left cnt) : CMap w b S := World.ranges.owns h
theorem CRange.kept {w w' : World} {b r : Nat} {S : List Ent} {left : Lit → Bool} {cnt : Nat} {row : Option Nat} (h : CRange w b r S left cnt) (hg : w.grownBy w' row) (h1 : some b ≠ row) (h2 : some r ≠ row) : CRange w' b r S left cnt := World.ranges.kept h hg h1 h2

section
variable (w : World) {ops : Array Oper} {rest : List Oper} {o : Oper} {a : Act} {Q : Exit → Act → World → Prop}

theorem wpList_range_c (hg : o.guard = none) (m : Operand) (hop : o.op = Op.range 52 m) (b : Nat) (S : List Ent) (hm : a.eval m = .map (some b)) (h : CMap w b S)
    (hK : ∀ w', CRange w' b w.heap.size S (Maps.has (datumC S)) S.length → w.grownBy w' none → w'.heap.size = w.heap.size + 1 → wpList Try.prog ops Q rest (a.put o.dst (.pointer (some ⟨w.heap.size, 0, none⟩))) w') :
    wpList Try.prog ops Q (o :: rest) a w :=
  wpList_range_own w hg m 52 hop 9 36 lawC Try.underlying52 RVc b S.length (datumC S) hm h fun w' h1 h2 h3 => hK w' (by rw [datumC_size] at h1; exact h1) h2 h3

theorem wpList_next_c (hg : o.guard = none) (it : Operand) (hop : o.op = Op.next it false) (b r : Nat) (S : List Ent) (left : Lit → Bool) (cnt : Nat) (hit : a.eval it = .pointer (some ⟨r, 0, none⟩)) (h : CRange w b r S left cnt)
    (hDone : cnt = 0 → (∀ kl, left kl = false) → wpList Try.prog ops Q rest (a.put o.dst (.tuple #[.bool false])) w)
    (hMore : ∀ (x : Ent) (w' : World) (cnt' : Nat), x ∈ S → left (.string x.key) = true → CRange w' b r S (fun z => left z && !z.sameKey (.string x.key)) cnt' → cnt' < cnt → w.grownBy w' (some r) → w'.heap.size = w.heap.size →
      (Instr.entry (.pointer (some ⟨r, 0, none⟩))).run Try.prog w' = .ok (.tuple #[.string x.k, .agg #[.string x.k, .int .i64 x.t, .int .u16 x.o, .string x.v, .int .i64 x.u]]) w' →
      wpList Try.prog ops Q rest (a.put o.dst (.tuple #[.bool true, .string x.k, .agg #[.string x.k, .int .i64 x.t, .int .u16 x.o, .string x.v, .int .i64 x.u]])) w') :
    wpList Try.prog ops Q (o :: rest) a w := by
  have hR := h.map.rising
  refine wpList_next_ranges w hg it hop 9 lawC RVc (fun v : Value => v) (fun v : Value => v) (fun key _ _ => ⟨key, rfl⟩) (fun v _ _ => ⟨v, rfl⟩) b r S.length (datumC S) left cnt hit h hDone ?_
  intro key v kl y w' cnt' hkey hl hv hat hrg hlt hgr hsz hen
  obtain ⟨k, rfl, rfl, hkl⟩ := Maps.keyOf_str Try.underlying9 hkey
  have h1 := Maps.has_true_of_atKey hat
  rw [datumC_has, List.any_eq_true] at h1
  obtain ⟨x, hx, e⟩ := h1
  obtain rfl : x.key = k := by simpa using e
  have h2 := hat .nil
  rw [datumC_at hR hx] at h2
  have h3 : y = (.held v, []) := by simpa [RVc] using hv.symm
  rw [h3] at h2
  have h4 : x.val = v := DataW.held.inj h2
  subst h4
  exact hMore x w' cnt' hx hl hrg hlt hgr hsz hen

theorem wpList_delete_c (hg : o.guard = none) (m k : Operand) (hop : o.op = Op.call { callee := Callee.builtin Builtin.delete, args := #[m, k], argTypes := #[52, 9] }) (b r : Nat) (S : List Ent) (left : Lit → Bool) (cnt : Nat)
    (hm : a.eval m = .map (some b)) (h : CRange w b r S left cnt) (kk : ByteArray) (hkl : kk.size ≤ maxLen) (hk : a.eval k = .string kk)
    (hK : ∀ w' cnt', CRange w' b r (S.filter fun y => !(y.key == kk.data.toList)) (fun z => left z && !z.sameKey (.string kk.data.toList)) cnt' → cnt' ≤ cnt → w.grownBy w' (some b) → w'.heap.size = w.heap.size → wpList Try.prog ops Q rest (a.put o.dst (.tuple #[])) w') :
    wpList Try.prog ops Q (o :: rest) a w := by
  refine wpList_plain hg fun K' hK' => ?_
  obtain ⟨w', cnt', hrun, h1, h2, h3⟩ := World.ranges.drop h lawC Try.underlying52 (keyOf_encC hkl) o.type
  unfold Oper.wp
  simp [execOp, resolve, invoke, builtin, hop, hm, hk, hrun, Result.andThen]
  refine hK' _ _ (hK w' cnt' ?_ h2 h3.grown ?_)
  · rw [datumC_del] at h1
    obtain ⟨es, clock, since, seen, c0, hb, F, hs, hD, hr⟩ := h1
    refine ⟨es, clock, since, seen, c0, hb, F, ?_, hD, hr⟩
    have e : Maps.size (datumC (S.filter fun y => !(y.key == kk.data.toList))) = es.size := by rw [hD]; simp [Maps.size, length_sorted]
    rw [datumC_size] at e
    omega
  · obtain ⟨es, clock, es', clock', hb, e⟩ := h3
    rw [e]
    simp [Go.ChangeMaps.setBlock]
end

end Go.Proofs.Ytkbonifbnbdbkab
