/-
  Alerts, plainly: a store is a list of alerts by rising keys, and that list is what its map reads as. What a map's calls do, in these words.
-/
import Derived.Test.YtdnpfmmkglgnjabDoorLKey
import Derived.Test.YtdnpfmmkglgnjabDoorLRPlain
import Derived.Maps.OwnSet
import Derived.Maps.RangeWalk
import Derived.Maps.Ext
import Derived.Sort.KeysCollected
import Derived.Deep.RegionHeld3
namespace Go.Proofs.YtdnpfmmkglgnjabDoor
open Go.RowKit Go.Maps

/-- One operation is taken first, its slot said. -/
theorem wpAnyH_takeA {P : Program} {ops : Array Oper} {Q : Exit → Act → World → Prop} {md : Region.Mode} {S : World → Prop} {i : Nat} (dst : Option Nat) {oi : Oper} {v : Value} {fuel : Nat} {listed : Array Bool} {a : Act} {w : World} (hi : ops[i]? = some oi) (hd : oi.dst = dst)
    (hs : Region.noSelect ops = true) (hf : Region.free md ops listed i = true) (hr : (Region.ready md ops listed).contains i = true)
    (hQ : ∀ c a w, Q (.panic c) (a.put dst v) w → Q (.panic c) a w) (hy : YieldsIf P ops S oi v a) (hS : S w)
    (h : wpAnyH P md ops Q S fuel (listed.setIfInBounds i true) (a.put dst v) w) : wpAnyH P md ops Q S (fuel + 1) listed a w := by
  subst hd
  exact wpAnyH_take hi hs hf hr hQ hy hS h

theorem cellA {w : World} {b j : Nat} {cs : Array Value} {t : TypeId} {fr : Nat × Nat} (h : w.heap[b]? = some (.cells cs t fr)) : w.cell? ⟨b, j, none⟩ = cs[j]? := by simp [World.cell?, h]
theorem newA (w : World) (o : Obj) : (w.alloc o).heap[w.heap.size]? = some o := by
  show (w.heap.push o)[w.heap.size]? = some o
  exact Array.getElem?_push_size
theorem ltA {w : World} {b : Nat} {o : Obj} (h : w.heap[b]? = some o) : b < w.heap.size := (Array.getElem?_eq_some_iff.1 h).1
theorem baseA {W : World} {base base' : Nat} {e : TypeId} {size : Nat} {v : Value} {k : Nat} {xs : List Value} (h : W.ownsRow base e size v k xs) (hb : base' ≤ base) : W.ownsRow base' e size v k xs := by
  refine ⟨h.1, ?_⟩
  rcases h.2 with hn | ⟨g, cap, cur, hv, hbg, rest⟩
  · exact .inl hn
  · exact .inr ⟨g, cap, cur, hv, Nat.le_trans hb hbg, rest⟩

/-- An alert: its labels, its Start, its End; where its labels lie. -/
structure Rw where
  ps : List Pr
  st : Int
  en : Int
  ad : Option Addr
  cp : Nat
def Rw.key (r : Rw) : List UInt8 := keyL r.ps
def Rw.val (r : Rw) : Value := .agg #[.slice r.ad r.ps.length r.cp, .int .i64 r.st, .int .i64 r.en]
/-- What is told of an alert. -/
abbrev Al := List Pr × Int × Int
def Rw.al (r : Rw) : Al := (r.ps, r.st, r.en)
def zeroA : Value := .agg #[.slice none 0 0, .int .i64 0, .int .i64 0]

def RV (v : Value) : Option (DataW Value × List MemPlace) := some (.held v, [])
def ent (r : Rw) : Lit × DataW Value := (.string r.key, .held r.val)
def datum (S : List Rw) : DataW Value := .map (S.map ent)
/-- By rising keys. -/
def Rising (S : List Rw) : Prop := S.Pairwise fun x y => x.key < y.key

theorem before_iff : ∀ (a b : List UInt8), bytesBefore a b = true ↔ a < b
  | [], [] => by simp [bytesBefore]
  | [], _ :: _ => by simp [bytesBefore]
  | _ :: _, [] => by simp [bytesBefore]
  | a :: r, b :: s => by
    have ih := before_iff r s
    rw [bytesBefore, List.cons_lt_cons_iff, Bool.or_eq_true, Bool.and_eq_true, ih]
    simp
theorem key_irrefl (a : List UInt8) : ¬ a < a := fun h => by
  have := (before_iff a a).2 h
  rw [WideAt.bytes_irrefl] at this
  cases this
theorem key_trans {a b c : List UInt8} (h1 : a < b) (h2 : b < c) : a < c := (before_iff a c).1 (Go.WideShapes.bytes_trans a b c ((before_iff a b).2 h1) ((before_iff b c).2 h2))
theorem key_total {a b : List UInt8} (h : a ≠ b) : a < b ∨ b < a := by
  rcases WideAt.bytes_total a b h with h1 | h1
  · exact .inl ((before_iff a b).1 h1)
  · exact .inr ((before_iff b a).1 h1)
theorem key_asymm {a b : List UInt8} (h1 : a < b) : ¬ b < a := fun h2 => key_irrefl a (key_trans h1 h2)

def insR (x : Rw) : List Rw → List Rw
  | [] => [x]
  | y :: l => if x.key < y.key then x :: y :: l else y :: insR x l
/-- Another alert in the place of the one with its key, if there is one. -/
def putR (x : Rw) (S : List Rw) : List Rw := insR x (S.filter fun y => !(y.key == x.key))

theorem ent_ins (x : Rw) : ∀ S : List Rw, DataW.insert (ent x) (S.map ent) = (insR x S).map ent
  | [] => rfl
  | y :: l => by
    rw [List.map_cons, DataW.insert, insR]
    have e : (ent x).1.before (ent y).1 = bytesBefore x.key y.key := rfl
    rw [e]
    by_cases h : x.key < y.key
    · rw [if_pos h, if_pos ((before_iff _ _).2 h)]; rfl
    · rw [if_neg h, if_neg (fun h' => h ((before_iff _ _).1 h')), ent_ins x l]; rfl
theorem datum_put (x : Rw) (S : List Rw) : (datum S).put (.string x.key) (.held x.val) = datum (putR x S) := by
  show DataW.map (DataW.insert (ent x) ((S.map ent).filter fun p => !p.1.sameKey (.string x.key))) = _
  rw [List.filter_map, ent_ins]
  rfl
theorem datum_del (S : List Rw) (k : List UInt8) : (datum S).del (.string k) = datum (S.filter fun y => !(y.key == k)) := by
  show DataW.map ((S.map ent).filter fun p => !p.1.sameKey (.string k)) = _
  rw [List.filter_map]
  rfl
theorem datum_size (S : List Rw) : Maps.size (datum S) = S.length := by simp [datum, Maps.size]
theorem datum_keys (S : List Rw) : strKeys (datum S) = S.map Rw.key := by
  show (S.map ent).map (fun p => Go.strOf p.1) = _
  rw [List.map_map]
  rfl
theorem datum_has (S : List Rw) (k : List UInt8) : Maps.has (datum S) (.string k) = S.any fun y => y.key == k := by
  show (S.map ent).any (fun p => p.1.sameKey (.string k)) = _
  rw [List.any_map]
  rfl
theorem find_key {S : List Rw} (h : Rising S) {r : Rw} (hr : r ∈ S) : S.find? (fun y => y.key == r.key) = some r := by
  induction S with
  | nil => cases hr
  | cons y l ih =>
    rw [List.find?_cons]
    rcases List.mem_cons.1 hr with rfl | hr'
    · simp
    · have hlt := (List.pairwise_cons.1 h).1 r hr'
      have hne : (y.key == r.key) = false := by
        rw [beq_eq_false_iff_ne]
        intro e
        rw [e] at hlt
        exact key_irrefl _ hlt
      rw [hne]
      exact ih (List.pairwise_cons.1 h).2 hr'
theorem datum_at {S : List Rw} (h : Rising S) {r : Rw} (hr : r ∈ S) (z : DataW Value) : (datum S).atKey (.string r.key) z = .held r.val := by
  have e : (S.map ent).find? (fun p => p.1.sameKey (.string r.key)) = some (ent r) := by
    rw [List.find?_map]
    show Option.map ent (S.find? fun y => y.key == r.key) = _
    rw [find_key h hr]
    rfl
  unfold datum DataW.atKey
  simp only [e]
  rfl
theorem key_inj {S : List Rw} (h : Rising S) {r s : Rw} (hr : r ∈ S) (hs : s ∈ S) (e : r.key = s.key) : r = s := by
  have h1 := find_key h hr
  rw [e, find_key h hs] at h1
  exact (Option.some.inj h1).symm

/-- Block b is the map of a store. -/
def StMap (w : World) (b : Nat) (S : List Rw) : Prop := w.ownsMap Tryd.prog 9 RV b S.length (datum S)
theorem lawS : Keyed Tryd.prog 9 := string_keyed Tryd.underlying9
theorem zeroAl (w : World) : (zeroValue 25).run Tryd.prog w = .ok zeroA w := by kernel_rfl

theorem StMap.of {w : World} {b n : Nat} {S : List Rw} (h : w.ownsMap Tryd.prog 9 RV b n (datum S)) : StMap w b S := by
  obtain ⟨es, clock, hb, F, hs, hD⟩ := h
  refine ⟨es, clock, hb, F, ?_, hD⟩
  have e : Maps.size (datum S) = es.size := by rw [hD]; simp [Maps.size, length_sorted]
  rw [datum_size] at e
  omega
theorem StMap.rising {w : World} {b : Nat} {S : List Rw} (h : StMap w b S) : Rising S := by
  obtain ⟨es, e, hp, -⟩ := World.ownsMap.canon h lawS
  obtain rfl : S.map ent = es := by simpa [datum] using e
  rw [List.pairwise_map] at hp
  exact hp.imp fun {x y} hxy => (before_iff _ _).1 hxy
theorem StMap.lt {w : World} {b : Nat} {S : List Rw} (h : StMap w b S) : b < w.heap.size := World.ownsMap.lt h
theorem StMap.kept {w w' : World} {b : Nat} {S : List Rw} {row : Option Nat} (h : StMap w b S) (hg : w.grownBy w' row) (hne : some b ≠ row) : StMap w' b S := World.ownsMap.kept h hg hne
theorem StMap.below {w w' : World} {b B : Nat} {S : List Rw} (h : StMap w b S) (hb : Below B w w') (hB : b < B) : StMap w' b S := by
  obtain ⟨es, clock, hh, F, hs, hD⟩ := h
  exact ⟨es, clock, (hb.block b hB).trans hh, F, hs, hD⟩
theorem StMap.made (w : World) : StMap (w.alloc (.map #[] 0)) w.heap.size [] := World.ownsMap_made w Tryd.prog 9 RV
theorem StMap.size {w : World} {b : Nat} {S : List Rw} (h : StMap w b S) : ∀ ty, (Builtin.len_ #[45] ty #[.map (some b)]).run Tryd.prog w = .ok (.int .i64 (S.length : Int)) w := fun ty => by
  have := World.ownsMap.len h Tryd.underlying45 ty
  rwa [datum_size] at this
theorem keyOf_enc {k : List UInt8} (hk : k.length ≤ maxLen) : keyOf Tryd.prog 9 (.string ⟨k.toArray⟩) = some (.string k) := by
  have := Go.WideMaps.keyOf_string_mk (P := Tryd.prog) Tryd.underlying9 (s := ⟨k.toArray⟩) (by show k.toArray.size ≤ _; simpa using hk)
  simpa using this
theorem StMap.look_yes {w : World} {b : Nat} {S : List Rw} (h : StMap w b S) {r : Rw} (hr : r ∈ S) (hk : r.key.length ≤ maxLen) (c : Bool) :
    (Instr.lookup 45 (.map (some b)) (.string ⟨r.key.toArray⟩) c).run Tryd.prog w = .ok (if c then .tuple #[r.val, .bool true] else r.val) w := by
  have hR := StMap.rising h
  obtain ⟨es, clock, hb, F, hs, hD⟩ := h
  rcases Maps.fit_look c lawS Tryd.underlying45 (zeroAl w) hb F (keyOf_enc hk) with ⟨-, -, hat⟩ | ⟨e0, y, -, -, hrun, hv, hat, -⟩
  · have h1 := hat .nil
    rw [← hD, datum_at hR hr] at h1
    cases h1
  · have h1 := hat .nil
    rw [← hD, datum_at hR hr] at h1
    have h2 : y = (.held e0.val, []) := by simpa [RV] using hv.symm
    rw [h2] at h1
    have h3 : r.val = e0.val := DataW.held.inj h1
    rw [h3]
    exact hrun
theorem StMap.look_no {w : World} {b : Nat} {S : List Rw} (h : StMap w b S) {k : List UInt8} (hk : k.length ≤ maxLen) (hno : ∀ r ∈ S, r.key ≠ k) (c : Bool) :
    (Instr.lookup 45 (.map (some b)) (.string ⟨k.toArray⟩) c).run Tryd.prog w = .ok (if c then .tuple #[zeroA, .bool false] else zeroA) w := by
  obtain ⟨es, clock, hb, F, hs, hD⟩ := h
  rcases Maps.fit_look c lawS Tryd.underlying45 (zeroAl w) hb F (keyOf_enc hk) with ⟨hrun, -, -⟩ | ⟨e0, y, -, -, hrun, hv, hat, -⟩
  · exact hrun
  · have h1 := Maps.has_true_of_atKey hat
    rw [← hD, datum_has, List.any_eq_true] at h1
    obtain ⟨r, hr, e⟩ := h1
    exact absurd (by simpa using e) (hno r hr)
theorem StMap.put {w : World} {b : Nat} {S : List Rw} (h : StMap w b S) (x : Rw) (hk : x.key.length ≤ maxLen) (hn : S.length < maxLen) :
    ∃ w', (Instr.mapUpdate 45 (.map (some b)) (.string ⟨x.key.toArray⟩) x.val).run Tryd.prog w = .ok () w' ∧ StMap w' b (putR x S) ∧ w.grownBy w' (some b) := by
  obtain ⟨w', hrun, h1, h2⟩ := World.ownsMap.update h lawS Tryd.underlying45 hn (keyOf_enc hk) (show RV x.val = some (.held x.val, []) from rfl)
  rw [datum_put] at h1
  exact ⟨w', hrun, StMap.of h1, h2⟩

/-- A store into a store's map, as a step of a region that draws its order. -/
theorem step_putR {w : World} {ops : Array Oper} {o : Oper} {act : Act} {K : Act → World → Prop} {Q : Exit → Act → World → Prop} {E : Prop} (hgd : o.guard = none) (m k v : Operand) (ho : o.op = .mapUpdate 45 m k v)
    {b : Nat} {S : List Rw} (h : StMap w b S) (x : Rw) (hk : x.key.length ≤ maxLen) (hn : S.length < maxLen) (em : act.eval m = .map (some b)) (ek : act.eval k = .string ⟨x.key.toArray⟩) (ev : act.eval v = x.val)
    (hK : ∀ w', StMap w' b (putR x S) → w.grownBy w' (some b) → K (act.put o.dst undef) w') :
    if Region.wanted o (yielded ops act.tmps) = true then Oper.wp Tryd.prog o act w K Q else E := by
  have hw : Region.wanted o (yielded ops act.tmps) = true := by simp [Region.wanted, hgd]
  rw [if_pos hw]
  obtain ⟨w', hr, h1, h2⟩ := h.put x hk hn
  unfold Oper.wp
  simp [execOp, ho, em, ek, ev, hr, Result.andThen]
  exact hK w' h1 h2

/-- A range over a store's map under way: S are its alerts, left tells which are still to come. -/
def StRange (w : World) (b r : Nat) (S : List Rw) (left : Lit → Bool) (cnt : Nat) : Prop := w.ranges Tryd.prog 9 RV b r S.length (datum S) left cnt
theorem StRange.map {w : World} {b r : Nat} {S : List Rw} {left : Lit → Bool} {cnt : Nat} (h : StRange w b r S left cnt) : StMap w b S := World.ranges.owns h
theorem StRange.kept {w w' : World} {b r : Nat} {S : List Rw} {left : Lit → Bool} {cnt : Nat} {row : Option Nat} (h : StRange w b r S left cnt) (hg : w.grownBy w' row) (h1 : some b ≠ row) (h2 : some r ≠ row) : StRange w' b r S left cnt := World.ranges.kept h hg h1 h2

section
variable (w : World) {ops : Array Oper} {rest : List Oper} {o : Oper} {a : Act} {Q : Exit → Act → World → Prop}

theorem wpList_range_st (hg : o.guard = none) (m : Operand) (hop : o.op = Op.range 45 m) (b : Nat) (S : List Rw) (hm : a.eval m = .map (some b)) (h : StMap w b S)
    (hK : ∀ w', StRange w' b w.heap.size S (Maps.has (datum S)) S.length → w.grownBy w' none → w'.heap.size = w.heap.size + 1 → wpList Tryd.prog ops Q rest (a.put o.dst (.pointer (some ⟨w.heap.size, 0, none⟩))) w') :
    wpList Tryd.prog ops Q (o :: rest) a w :=
  wpList_range_own w hg m 45 hop 9 25 lawS Tryd.underlying45 RV b S.length (datum S) hm h fun w' h1 h2 h3 => hK w' (by rw [datum_size] at h1; exact h1) h2 h3

theorem wpList_next_st (hg : o.guard = none) (it : Operand) (hop : o.op = Op.next it false) (b r : Nat) (S : List Rw) (left : Lit → Bool) (cnt : Nat) (hit : a.eval it = .pointer (some ⟨r, 0, none⟩)) (h : StRange w b r S left cnt)
    (hDone : cnt = 0 → (∀ kl, left kl = false) → wpList Tryd.prog ops Q rest (a.put o.dst (.tuple #[.bool false])) w)
    (hMore : ∀ (x : Rw) (w' : World) (cnt' : Nat), x ∈ S → left (.string x.key) = true → StRange w' b r S (fun z => left z && !z.sameKey (.string x.key)) cnt' → cnt' < cnt → w.grownBy w' (some r) → w'.heap.size = w.heap.size →
      (Instr.entry (.pointer (some ⟨r, 0, none⟩))).run Tryd.prog w' = .ok (.tuple #[.string ⟨x.key.toArray⟩, .agg #[.slice x.ad x.ps.length x.cp, .int .i64 x.st, .int .i64 x.en]]) w' →
      wpList Tryd.prog ops Q rest (a.put o.dst (.tuple #[.bool true, .string ⟨x.key.toArray⟩, .agg #[.slice x.ad x.ps.length x.cp, .int .i64 x.st, .int .i64 x.en]])) w') :
    wpList Tryd.prog ops Q (o :: rest) a w := by
  have hR := h.map.rising
  refine wpList_next_ranges w hg it hop 9 lawS RV (fun v : Value => v) (fun v : Value => v) (fun key _ _ => ⟨key, rfl⟩) (fun v _ _ => ⟨v, rfl⟩) b r S.length (datum S) left cnt hit h hDone ?_
  intro key v kl y w' cnt' hkey hl hv hat hrg hlt hgr hsz hen
  obtain ⟨k, rfl, rfl, hkl⟩ := Maps.keyOf_str Tryd.underlying9 hkey
  have h1 := Maps.has_true_of_atKey hat
  rw [datum_has, List.any_eq_true] at h1
  obtain ⟨x, hx, e⟩ := h1
  obtain rfl : x.key = k := by simpa using e
  have h2 := hat .nil
  rw [datum_at hR hx] at h2
  have h3 : y = (.held v, []) := by simpa [RV] using hv.symm
  rw [h3] at h2
  have h4 : x.val = v := DataW.held.inj h2
  subst h4
  exact hMore x w' cnt' hx hl hrg hlt hgr hsz hen

theorem wpList_delete_st (hg : o.guard = none) (m k : Operand) (hop : o.op = Op.call { callee := Callee.builtin Builtin.delete, args := #[m, k], argTypes := #[45, 9] }) (b r : Nat) (S : List Rw) (left : Lit → Bool) (cnt : Nat)
    (hm : a.eval m = .map (some b)) (h : StRange w b r S left cnt) (kk : List UInt8) (hkl : kk.length ≤ maxLen) (hk : a.eval k = .string ⟨kk.toArray⟩)
    (hK : ∀ w' cnt', StRange w' b r (S.filter fun y => !(y.key == kk)) (fun z => left z && !z.sameKey (.string kk)) cnt' → cnt' ≤ cnt → w.grownBy w' (some b) → w'.heap.size = w.heap.size → wpList Tryd.prog ops Q rest (a.put o.dst (.tuple #[])) w') :
    wpList Tryd.prog ops Q (o :: rest) a w := by
  refine wpList_plain hg fun K' hK' => ?_
  obtain ⟨w', cnt', hrun, h1, h2, h3⟩ := World.ranges.drop h lawS Tryd.underlying45 (keyOf_enc hkl) o.type
  unfold Oper.wp
  simp [execOp, resolve, invoke, builtin, hop, hm, hk, hrun, Result.andThen]
  refine hK' _ _ (hK w' cnt' ?_ h2 h3.grown ?_)
  · rw [datum_del] at h1
    obtain ⟨es, clock, since, seen, c0, hb, F, hs, hD, hr⟩ := h1
    refine ⟨es, clock, since, seen, c0, hb, F, ?_, hD, hr⟩
    have e : Maps.size (datum (S.filter fun y => !(y.key == kk))) = es.size := by rw [hD]; simp [Maps.size, length_sorted]
    rw [datum_size] at e
    omega
  · obtain ⟨es, clock, es', clock', hb, e⟩ := h3
    rw [e]
    simp [Go.ChangeMaps.setBlock]
end

end Go.Proofs.YtdnpfmmkglgnjabDoor
