/-
  Alerts by rising keys, plainly; what byKey of package group does. What byKey of package group does: the alerts with their keys, by rising keys, in memory of its own.
-/
import Derived.Test.YtdnpfmmkglgnjaaDoorG1
import Derived.Test.YtdnpfmmkglgnjaaDoorGStable
import Derived.Test.YtdnpfmmkglgnjaaDoorLShelf
import Derived.Shelf.Small.Strs
namespace Go.Proofs.YtdnpfmmkglgnjaaDoor
open Go.RowKit

/-! ### by rising keys -/
theorem before_iff : ∀ (a b : List UInt8), bytesBefore a b = true ↔ a < b
  | [], [] => by simp [bytesBefore]
  | [], _ :: _ => by simp [bytesBefore]
  | _ :: _, [] => by simp [bytesBefore]
  | a :: r, b :: s => by
    have ih := before_iff r s
    rw [bytesBefore, List.cons_lt_cons_iff, Bool.or_eq_true, Bool.and_eq_true, ih]
    simp
theorem key_irrefl (a : List UInt8) : ¬ a < a := fun h => by
  have := (before_iff a a).2 h
  rw [WideAt.bytes_irrefl] at this
  cases this
theorem key_trans {a b c : List UInt8} (h1 : a < b) (h2 : b < c) : a < c := (before_iff a c).1 (Go.WideShapes.bytes_trans a b c ((before_iff a b).2 h1) ((before_iff b c).2 h2))
theorem key_total {a b : List UInt8} (h : a ≠ b) : a < b ∨ b < a := by
  rcases WideAt.bytes_total a b h with h1 | h1
  · exact .inl ((before_iff a b).1 h1)
  · exact .inr ((before_iff b a).1 h1)
theorem key_asymm {a b : List UInt8} (h1 : a < b) : ¬ b < a := fun h2 => key_irrefl a (key_trans h1 h2)
theorem cmp_ltK : ∀ (x y : List UInt8), Lib.compareBytes x y < 0 ↔ x < y
  | [], [] => by simp [Lib.compareBytes]
  | [], _ :: _ => by simp [Lib.compareBytes]
  | _ :: _, [] => by simp [Lib.compareBytes]
  | a :: x, b :: y => by
    rw [Lib.compareBytes, List.cons_lt_cons_iff]
    by_cases h1 : a < b
    · simp [h1]
    · rw [if_neg h1]
      by_cases h2 : b < a
      · rw [if_pos h2]
        have : ¬ a = b := fun e => UInt8.lt_irrefl a (e ▸ h2)
        simp [h1, this]
      · rw [if_neg h2, cmp_ltK x y]
        have : a = b := UInt8.le_antisymm (UInt8.not_lt.1 h2) (UInt8.not_lt.1 h1)
        simp [this]

/-- An alert, put behind all whose keys are not above its own. -/
def insK (x : Rw) : List Rw → List Rw
  | [] => [x]
  | y :: l => if x.key < y.key then x :: y :: l else y :: insK x l
/-- Alerts by rising keys, those of one key in their order. -/
def sortR (L : List Rw) : List Rw := L.foldl (fun acc x => insK x acc) []

/-- The same, with the places at which they stood. -/
def insN (x : Rw × Nat) : List (Rw × Nat) → List (Rw × Nat)
  | [] => [x]
  | y :: l => if x.1.key < y.1.key then x :: y :: l else y :: insN x l
theorem insN_fst (x : Rw × Nat) : ∀ l, (insN x l).map Prod.fst = insK x.1 (l.map Prod.fst)
  | [] => rfl
  | y :: l => by
    rw [insN, List.map_cons, insK]
    split
    · rfl
    · rw [List.map_cons, insN_fst x l]
theorem insN_perm (x : Rw × Nat) : ∀ l, (insN x l).Perm (x :: l)
  | [] => List.Perm.refl _
  | y :: l => by
    rw [insN]
    split
    · exact List.Perm.refl _
    · exact ((insN_perm x l).cons y).trans (List.Perm.swap x y l)
theorem foldN_fst : ∀ (l acc : List (Rw × Nat)), (l.foldl (fun a x => insN x a) acc).map Prod.fst = (l.map Prod.fst).foldl (fun a x => insK x a) (acc.map Prod.fst)
  | [], _ => rfl
  | x :: l, acc => by rw [List.foldl_cons, List.map_cons, List.foldl_cons, foldN_fst l, insN_fst]
theorem foldN_perm : ∀ (l acc : List (Rw × Nat)), (l.foldl (fun a x => insN x a) acc).Perm (acc ++ l)
  | [], acc => by rw [List.append_nil]; exact List.Perm.refl _
  | x :: l, acc => by
    rw [List.foldl_cons]
    refine (foldN_perm l _).trans ?_
    refine ((insN_perm x acc).append_right l).trans ?_
    show (x :: acc ++ l).Perm (acc ++ x :: l)
    exact List.perm_middle.symm
def cfK (x y : Rw × Nat) : Int := Lib.compareBytes x.1.key y.1.key
theorem ltK (x y : Rw × Nat) : ltOf cfK x y = decide (x.1.key < y.1.key) := by
  unfold ltOf cfK
  rw [decide_eq_decide, cmp_ltK]
theorem swoK : Sort.SWO (ltOf cfK) where
  irrefl x := by rw [ltK]; exact decide_eq_false (key_irrefl _)
  trans x y z h1 h2 := by rw [ltK] at *; simp only [decide_eq_true_eq] at *; exact key_trans h1 h2
  ntrans x y z h1 h2 := by
    rw [ltK] at *
    simp only [decide_eq_false_iff_not] at *
    intro h
    by_cases e : y.1.key = x.1.key
    · rw [← e] at h; exact h2 h
    · rcases key_total e with hc | hc
      · exact h2 (key_trans hc h)
      · exact h1 hc
theorem lexK {x y : Rw × Nat} : lexL (ltOf cfK) x y ↔ x.1.key < y.1.key ∨ (x.1.key = y.1.key ∧ x.2 < y.2) := by
  unfold lexL
  rw [ltK, ltK]
  simp only [decide_eq_true_eq, decide_eq_false_iff_not]
  constructor
  · rintro (h | ⟨h1, h2, h3⟩)
    · exact .inl h
    · refine .inr ⟨?_, h3⟩
      by_cases e : x.1.key = y.1.key
      · exact e
      · rcases key_total e with hc | hc
        · exact absurd hc h1
        · exact absurd hc h2
  · rintro (h | ⟨h1, h2⟩)
    · exact .inl h
    · exact .inr ⟨by rw [h1]; exact key_irrefl _, by rw [h1]; exact key_irrefl _, h2⟩
theorem insN_lex (x : Rw × Nat) : ∀ l : List (Rw × Nat), (∀ y ∈ l, y.2 < x.2) → l.Pairwise (lexL (ltOf cfK)) → (insN x l).Pairwise (lexL (ltOf cfK))
  | [], _, _ => by simp [insN]
  | y :: l, hx, hl => by
    obtain ⟨h1, h2⟩ := List.pairwise_cons.1 hl
    rw [insN]
    split
    · rename_i hc
      refine List.pairwise_cons.2 ⟨fun z hz => ?_, hl⟩
      have hxy : lexL (ltOf cfK) x y := lexK.2 (.inl hc)
      rcases List.mem_cons.1 hz with rfl | hz
      · exact hxy
      · exact lexL_trans swoK _ _ _ hxy (h1 z hz)
    · rename_i hc
      refine List.pairwise_cons.2 ⟨fun z hz => ?_, insN_lex x l (fun z hz => hx z (List.mem_cons_of_mem _ hz)) h2⟩
      have hz' := (insN_perm x l).mem_iff.1 hz
      rcases List.mem_cons.1 hz' with rfl | hz'
      · by_cases e : y.1.key = z.1.key
        · exact lexK.2 (.inr ⟨e, hx y (List.mem_cons_self ..)⟩)
        · rcases key_total e with hd | hd
          · exact lexK.2 (.inl hd)
          · exact absurd hd hc
      · exact h1 z hz'
theorem foldN_lex : ∀ (l acc : List (Rw × Nat)), acc.Pairwise (lexL (ltOf cfK)) → (∀ y ∈ acc, ∀ x ∈ l, y.2 < x.2) → l.Pairwise (fun x y => x.2 < y.2) → (l.foldl (fun a x => insN x a) acc).Pairwise (lexL (ltOf cfK))
  | [], _, h, _, _ => h
  | x :: l, acc, h, h2, h3 => by
    obtain ⟨g1, g2⟩ := List.pairwise_cons.1 h3
    rw [List.foldl_cons]
    refine foldN_lex l _ (insN_lex x acc (fun y hy => h2 y hy x (List.mem_cons_self ..)) h) (fun y hy z hz => ?_) g2
    rcases List.mem_cons.1 ((insN_perm x acc).mem_iff.1 hy) with rfl | hy
    · exact g1 z hz
    · exact h2 y hy z (List.mem_cons_of_mem _ hz)
theorem zip_rise : ∀ (L : List Rw) (k : Nat), (L.zipIdx k).Pairwise (fun x y => x.2 < y.2)
  | [], _ => by simp
  | x :: L, k => by
    rw [List.zipIdx_cons]
    refine List.pairwise_cons.2 ⟨fun y hy => ?_, zip_rise L (k + 1)⟩
    have := List.le_snd_of_mem_zipIdx hy
    omega
/-- What is sorted so is that. -/
theorem sortR_of {L : List Rw} {N : List (Rw × Nat)} (hp : N.Perm L.zipIdx) (hs : N.Pairwise (lexL (ltOf cfK))) : N.map Prod.fst = sortR L := by
  have e : N = (L.zipIdx).foldl (fun a x => insN x a) [] := by
    refine List.Perm.eq_of_pairwise (le := fun x y => lexL (ltOf cfK) x y) ?_ hs (foldN_lex _ [] List.Pairwise.nil (by simp) (zip_rise L 0)) (hp.trans (by simpa using (foldN_perm L.zipIdx []).symm))
    intro x y _ _ h1 h2
    exfalso
    rcases lexK.1 h1 with h1 | ⟨h1, h1'⟩
    · rcases lexK.1 h2 with h2 | ⟨h2, _⟩
      · exact key_asymm h1 h2
      · rw [h2] at h1; exact key_irrefl _ h1
    · rcases lexK.1 h2 with h2 | ⟨_, h2'⟩
      · rw [h1] at h2; exact key_irrefl _ h2
      · omega
  rw [e, foldN_fst]
  have : (L.zipIdx).map Prod.fst = L := List.zipIdx_map_fst 0 L
  rw [this]
  rfl
theorem sortR_perm (L : List Rw) : (sortR L).Perm L := by
  have h := (foldN_perm L.zipIdx []).map Prod.fst
  rw [foldN_fst] at h
  have e : (L.zipIdx).map Prod.fst = L := List.zipIdx_map_fst 0 L
  simpa [e, sortR] using h


/-- Keyed alerts in blocks from B on. -/
def OwnK (w : World) (B : Nat) (v : Value) (L : List Rw) : Prop := w.ownsRow B 63 4 v L.length (cellsK L)
theorem infoKd : (Tryd.prog.info? 63).map (fun i => (i.zero, i.size, i.bytes)) = some (some (.agg #[.slice none 0 0, .int .i64 0, .int .i64 0, .string ⟨#[]⟩]), 4, 56) := by kernel_rfl
theorem OwnK.onB {w w' : World} {B N : Nat} {v : Value} {L : List Rw} (h : OwnK w B v L) (hb : Below N w w') (hN : w.heap.size ≤ N) : OwnK w' B v L :=
  World.ownsRow.kept h (grownBy_of_below (r := none) (hb.mono hN)) (by cases hv : v.ownBlock <;> simp)
theorem OwnK.push {w : World} {B : Nat} {v : Value} {L : List Rw} {r : Rw} (h : w.ownsRow B 63 4 v (L.length + 1) (cellsK L ++ encK r)) : OwnK w B v (L ++ [r]) := by
  unfold OwnK
  rw [List.length_append, cellsK_append]
  simpa [cellsK] using h
theorem OwnK.form {w : World} {B : Nat} {v : Value} {L : List Rw} (h : OwnK w B v L) : (v = .slice none 0 0 ∧ L = []) ∨ ∃ g c, v = .slice (some ⟨g, 0, none⟩) L.length c ∧ B ≤ g ∧ g < w.heap.size := by
  rcases h.2 with ⟨rfl, h0⟩ | ⟨g, cap, cur, rfl, hg0, hg1, -⟩
  · exact .inl ⟨rfl, List.eq_nil_of_length_eq_zero h0⟩
  · exact .inr ⟨g, cap, rfl, hg0, (Array.getElem?_eq_some_iff.1 hg1).1⟩

def encN (x : Rw × Nat) : List Value := encK x.1
theorem encK_at (r : Rw) (c : Nat) (hc : c < 4) (L : List Rw) (i : Nat) (hi : i < L.length) (e : L[i] = r) : (cellsK L)[i * 4 + c]? = some ((encK r)[c]'(by simp [encK]; omega)) := by
  subst e
  obtain ⟨h0, h1, h2, h3⟩ := cellsK_get L i hi
  match c, hc with
  | 0, _ => exact h0
  | 1, _ => exact h1
  | 2, _ => exact h2
  | 3, _ => exact h3
theorem ownK_holds [Inhabited Rw] {w : World} {B : Nat} {g c : Nat} {L : List Rw} (h : OwnK w B (.slice (some ⟨g, 0, none⟩) L.length c) L) : Sort.HoldsK encN 4 w g 0 (L.zipIdx).toArray := by
  intro j hj
  have hj' : j < L.length * 4 := by simpa [Sort.size_flatK] using hj
  have hcl := World.ownsRow.cells h (g := g) rfl
  have hi : j / 4 < L.length := by omega
  have e : (Sort.flatK encN 4 (L.zipIdx).toArray)[j]! = (cellsK L)[j]?.getD default := by
    rw [Sort.get_flatK _ _ _ _ (by simpa using hj')]
    have e1 := encK_at L[j / 4] (j % 4) (Nat.mod_lt _ (by omega)) L (j / 4) hi rfl
    rw [show j / 4 * 4 + j % 4 = j by omega] at e1
    rw [e1, getElem!_pos (L.zipIdx).toArray (j / 4) (by simpa using hi)]
    have e2 : (L.zipIdx).toArray[j / 4]'(by simpa using hi) = (L[j / 4], j / 4) := by simp
    rw [e2]
    show (encK L[j / 4])[j % 4]! = _
    rw [getElem!_pos (encK L[j / 4]) (j % 4) (by simp [encK]; omega)]
    rfl
  have hlen : j < (cellsK L).length := by rw [cellsK_len]; exact hj'
  have hc := hcl j _ (List.getElem?_eq_getElem hlen)
  rw [Go.WideShapes.add_plain] at hc
  rcases h.2 with ⟨h0, -⟩ | ⟨g', cap, cur, hv, hg0, hg1, hcap, hmax, hcs, htk⟩
  · cases h0
  · injection hv with hv1 hv2 hv3
    injection hv1 with hv1
    injection hv1 with hv1
    subst hv1
    refine ⟨?_, ?_⟩
    · rw [hc, e, List.getElem?_eq_getElem hlen]; rfl
    · simp [World.frozen?, hg1]

/-- Keyed alerts lie at an address. -/
def KeyedAt (w : World) (B : Nat) (a : Option Addr) (M : List Rw) : Prop :=
  0 < M.length → ∃ g, a = some ⟨g, 0, none⟩ ∧ B ≤ g ∧ g < w.heap.size ∧ ∀ i (hi : i < M.length), w.cell? ⟨g, i * 4, none⟩ = some (.slice M[i].ad M[i].ps.length M[i].cp) ∧ w.cell? ⟨g, i * 4 + 1, none⟩ = some (.int .i64 M[i].st) ∧ w.cell? ⟨g, i * 4 + 2, none⟩ = some (.int .i64 M[i].en) ∧ w.cell? ⟨g, i * 4 + 3, none⟩ = some (.string ⟨M[i].key.toArray⟩)
theorem KeyedAt.below {w w' : World} {B B' : Nat} {a : Option Addr} {M : List Rw} (h : KeyedAt w B a M) (hb : Below B' w w') (hB : w.heap.size ≤ B') : KeyedAt w' B a M := fun hn => by
  obtain ⟨g, rfl, h0, hgl, hc⟩ := h hn
  refine ⟨g, rfl, h0, Nat.lt_of_lt_of_le hgl hb.size, fun i hi => ?_⟩
  obtain ⟨h1, h2, h3, h4⟩ := hc i hi
  have hlt := Nat.lt_of_lt_of_le hgl hB
  rw [hb.cell (p := ⟨g, i * 4, none⟩) hlt, hb.cell (p := ⟨g, i * 4 + 1, none⟩) hlt, hb.cell (p := ⟨g, i * 4 + 2, none⟩) hlt, hb.cell (p := ⟨g, i * 4 + 3, none⟩) hlt]
  exact ⟨h1, h2, h3, h4⟩

theorem holds_keyed [Inhabited Rw] {w : World} {B g : Nat} {d : Array (Rw × Nat)} (h : Sort.HoldsK encN 4 w g 0 d) (hB : B ≤ g) (hg : g < w.heap.size) : KeyedAt w B (some ⟨g, 0, none⟩) (d.toList.map Prod.fst) := fun _ => by
  refine ⟨g, rfl, hB, hg, fun i hi => ?_⟩
  have hi' : i < d.size := by simpa using hi
  have e0 := (h.cell (i := i) (c := 0) hi' (by omega)).1
  have e1 := (h.cell (i := i) (c := 1) hi' (by omega)).1
  have e2 := (h.cell (i := i) (c := 2) hi' (by omega)).1
  have e3 := (h.cell (i := i) (c := 3) hi' (by omega)).1
  rw [getElem!_pos d i hi'] at e0 e1 e2 e3
  rw [Nat.zero_add] at e0 e1 e2 e3
  simp only [List.getElem_map, Array.getElem_toList]
  exact ⟨e0, e1, e2, e3⟩

set_option maxHeartbeats 1000000 in
theorem cmpK_any (x y : Rw × Nat) (W : World) : Calls Tryd.prog 53 #[.agg (encN x).toArray, .agg (encN y).toArray] W fun e w' => e = .returned (.int .i64 (cfK x y)) ∧ ∃ q os', w' = Sort.grow (W.drewN q) os' := by
  have hcon := fun W' => Any.strings_Compare Tryd.lCompare ⟨x.1.key.toArray⟩ ⟨y.1.key.toArray⟩ W'
  change ∀ W', Calls Tryd.prog 54 _ _ _ at hcon
  have e : Lib.compareBytes (⟨x.1.key.toArray⟩ : ByteArray).data.toList (⟨y.1.key.toArray⟩ : ByteArray).data.toList = cfK x y := rfl
  rw [e] at hcon
  generalize cfK x y = r at hcon ⊢
  obtain ⟨⟨xps, xs, xe, xa, xc⟩, xi⟩ := x
  obtain ⟨⟨yps, ys, ye, ya, yc⟩, yi⟩ := y
  simp only [encN, encK]
  generalize (Rw.key ⟨xps, xs, xe, xa, xc⟩).toArray = kx at *
  generalize (Rw.key ⟨yps, ys, ye, ya, yc⟩).toArray = ky at *
  clear e
  go_enter Tryd.func53, Tryd.ntmps53
  go_wp2_with (go_at_call 54; refine (hcon _).mono ?_; rintro e w' ⟨rfl, rfl⟩)
  go_ret
  exact ⟨rfl, 0, _, by rw [Sort.alloc_eq_grow, Sort.alloc_eq_grow, Sort.grow_grow]; rfl⟩

theorem below_sortK [Inhabited Rw] {B : Nat} {w w' : World} {g : Nat} {d : Array (Rw × Nat)} (hg : B ≤ g) (hB : B ≤ w.heap.size) (S : SWK encN 4 w g 0 d w') : Below B w w' := by
  obtain ⟨n, os, rfl⟩ := S
  refine ⟨rfl, rfl, rfl, size_sortWorldK_c encN 4 w g 0 n d os, fun k hk => ?_⟩
  unfold sortWorldK Sort.grow Sort.putRowK Sort.putRow Sort.mapBlock Sort.ahead
  show ((w.heap.modify g _) ++ os)[k]? = _
  rw [Array.getElem?_append_left (by simp; omega), Array.getElem?_modify, if_neg (by omega)]

set_option maxHeartbeats 1000000 in
theorem stabNil (w : World) (c : Nat) (fv : Value) : Calls Tryd.prog 52 #[.slice none 0 c, fv] w fun e w' => e = .returned (.tuple #[]) ∧ w' = w := by
  have hI := AnyF.insertionSortCmpFunc_none Tryd.lIns none c fv w
  change Calls Tryd.prog 67 _ _ _ at hI
  have hS : Calls Tryd.prog 60 #[.slice none 0 c, .int .i64 0, fv] w fun e w' => e = .returned (.tuple #[]) ∧ w' = w := by
    go_enter Tryd.func60, Tryd.ntmps60
    go_wp2
    go_loopg [7, 8] 0 (fun kx s7 s8 wr => s7 = .int .i64 0 ∧ s8 = .int .i64 20 ∧ wr = w)
    case atStart => exact ⟨rfl, rfl, rfl⟩
    case round =>
      obtain ⟨rfl, rfl, hw⟩ := hrel
      rw [hw]
      go_wp2_with (go_at_call 67; refine hI.mono ?_; rintro e w4 ⟨rfl, h4⟩; rw [h4]; refine Hid.out ?_)
      refine Lib.hid ?_
      go_wp2
      go_loopg [6] 0 (fun kx s6 wr => s6 = .int .i64 20 ∧ wr = w)
      case atStart => exact ⟨rfl, rfl⟩
      case round =>
        obtain ⟨rfl, hw2⟩ := hrel
        rw [hw2]
        go_wp2
        first | go_end0 | (refine bodyPost_ret (results_none rfl _ _ _) rfl ?_)
        exact ⟨rfl, rfl⟩
  have HS := Lib.hid hS
  clear hS hI
  go_enter Tryd.func52, Tryd.ntmps52
  go_wp2_with (go_at_call 60; refine HS.out.mono ?_; rintro e w4 ⟨rfl, h4⟩; rw [h4]; refine Hid.out ?_)
  refine Lib.hid ?_
  go_wp2
  first | go_end0 | (refine bodyPost_ret (results_none rfl _ _ _) rfl ?_)
  exact ⟨rfl, rfl⟩

/-- The sort, at keyed alerts of the call's own. -/
theorem kSort_own (a : Option Addr) (c : Nat) (L : List Rw) (B : Nat) (w : World) (h : OwnK w B (.slice a L.length c) L) (hB : B ≤ w.heap.size) (h40 : L.length ≤ 40) (n : Nat) (hn : n = L.length) :
    Calls Tryd.prog 52 #[.slice a n c, .func (.func 53) #[] #[]] w fun e w' => e = .returned (.tuple #[]) ∧ KeyedAt w' B a (sortR L) ∧ Below B w w' := by
  subst hn
  rcases h.form with ⟨hv, rfl⟩ | ⟨g, c', hv, hg, hgl⟩
  · simp only [Value.slice.injEq] at hv
    obtain ⟨rfl, -, rfl⟩ := hv
    exact (stabNil w 0 _).mono fun e w' ⟨he, hw⟩ => ⟨he, (fun hn => absurd hn (by simp [sortR])), by rw [hw]; exact Below.refl _ _⟩
  · simp only [Value.slice.injEq] at hv
    obtain ⟨rfl, -, rfl⟩ := hv
    haveI : Inhabited Rw := ⟨⟨[], 0, 0, none, 0⟩⟩
    have hH := ownK_holds h
    have hsz : (L.zipIdx).toArray.size = L.length := by simp
    have hk := kStable_any encN cfK swoK 53 #[] (enters_of Tryd.func53 (by kernel_rfl) rfl) g c (L.zipIdx).toArray w (fun w m os dk _ x y => cmpK_any x y _) ⟨fun _ => rfl, fun x v hv => by simp [encN, encK] at hv; rcases hv with rfl | rfl | rfl | rfl <;> rfl, hH, hgl⟩
      (fun i hi => by rw [getElem!_pos _ i hi]; simp) (by rw [hsz]; exact h40)
    rw [hsz] at hk
    refine hk.mono ?_
    rintro e w' ⟨he, d', S, hp, ho⟩
    have hd : d'.size = L.length := by rw [hp.1, hsz]
    have hperm : d'.toList.Perm L.zipIdx := by
      have h2 := hp.2.2
      have e1 : d'.extract 0 L.length = d' := by rw [← hd]; exact Array.extract_size
      have e2 : (L.zipIdx).toArray.extract 0 L.length = (L.zipIdx).toArray := by rw [← hsz]; exact Array.extract_size
      rw [e1, e2] at h2
      simpa using h2
    have hpw : d'.toList.Pairwise (lexL (ltOf cfK)) := by
      rw [List.pairwise_iff_getElem]
      intro i j hi hj hij
      simp only [Array.length_toList] at hi hj
      have := ho i j (Nat.zero_le _) hij (by omega)
      rw [getElem!_pos d' i hi, getElem!_pos d' j hj] at this
      simpa using this
    refine ⟨he, ?_, below_sortK hg (by omega) S⟩
    rw [← sortR_of hperm hpw]
    exact holds_keyed (S.holds hgl hH (by rw [hd, hsz])) hg (S.lt hgl)

theorem keep3_below {w w' : World} {B x : Nat} {v1 v2 v3 : Value} (hb : Below B w w') (hx : x < B) (h : w.cell? ⟨x, 0, none⟩ = some v1 ∧ w.cell? ⟨x, 1, none⟩ = some v2 ∧ w.cell? ⟨x, 2, none⟩ = some v3) : w'.cell? ⟨x, 0, none⟩ = some v1 ∧ w'.cell? ⟨x, 1, none⟩ = some v2 ∧ w'.cell? ⟨x, 2, none⟩ = some v3 :=
  ⟨by rw [hb.cell (p := ⟨x, 0, none⟩) hx]; exact h.1, by rw [hb.cell (p := ⟨x, 1, none⟩) hx]; exact h.2.1, by rw [hb.cell (p := ⟨x, 2, none⟩) hx]; exact h.2.2⟩
theorem keep3_grown {w w' : World} {r : Option Nat} {x : Nat} {v1 v2 v3 : Value} (hg : w.grownBy w' r) (hx : x < w.heap.size) (h : w.cell? ⟨x, 0, none⟩ = some v1 ∧ w.cell? ⟨x, 1, none⟩ = some v2 ∧ w.cell? ⟨x, 2, none⟩ = some v3) (hne : some x ≠ r) : w'.cell? ⟨x, 0, none⟩ = some v1 ∧ w'.cell? ⟨x, 1, none⟩ = some v2 ∧ w'.cell? ⟨x, 2, none⟩ = some v3 :=
  ⟨by rw [hg.cell_far ⟨x, 0, none⟩ hx hne]; exact h.1, by rw [hg.cell_far ⟨x, 1, none⟩ hx hne]; exact h.2.1, by rw [hg.cell_far ⟨x, 2, none⟩ hx hne]; exact h.2.2⟩

set_option maxHeartbeats 4000000 in
set_option maxRecDepth 100000 in
theorem gByKey_any (a : Option Addr) (c : Nat) (L : List Rw) (B : Nat) (w : World) (h : AlsAt w a L) (hl : L.length ≤ 40) (hL : ∀ r ∈ L, RwLight r) (hB : B ≤ w.heap.size) (hv : TabOk B w) (n : Nat) (hn : n = L.length) :
    Calls Tryd.prog 36 #[.slice a n c] w fun e w' => ∃ a' c', e = .returned (.slice a' n c') ∧ KeyedAt w' w.heap.size a' (sortR L) ∧ Below w.heap.size w w' := by
  subst hn
  obtain ⟨i0, hi, hi0, hi1, hi2⟩ := info_parts infoKd
  have HL := Lib.hid hL
  clear hL
  go_enter Tryd.func36, Tryd.ntmps36
  go_wp2
  go_loopw [3, 8] (fun v i wr => ∃ (k : Nat) (a7 : Option Addr) (n7 c7 : Nat), k ≤ L.length ∧ i = .int .i64 k ∧ v = .slice a7 n7 c7 ∧ n7 = k ∧ Hid (OwnK wr w.heap.size (.slice a7 n7 c7) (L.take k)) ∧ Below w.heap.size w wr) (fun _ i _ => L.length - (intOf i).toNat)
  case atStart => exact ⟨0, none, 0, 0, Nat.zero_le _, rfl, rfl, rfl, Lib.hid (World.ownsRow_nil _ _ _ _), Below.refl _ _⟩
  case round =>
    obtain ⟨k, a7, n7, c7, hk, rfl, rfl, rfl, HO, hnx⟩ := hrel
    have hs1 := hnx.size
    have hvr := hv.on (hnx.mono hB)
    by_cases hlt : n7 < L.length
    · have hkl : (n7 : Int) < (L.length : Int) := by omega
      have hr := (h.below hnx (Nat.le_refl _))
      obtain ⟨b, o, rfl, hbl, hc⟩ := hr (by omega)
      obtain ⟨hc1, hc2, hc3, hpa⟩ := hc n7 hlt
      have hli := HL.out L[n7] (List.getElem_mem _)
      have HT : Hid (L.take (n7 + 1) = L.take n7 ++ [L[n7]]) := Lib.hid (List.take_succ_eq_append_getElem hlt)
      have HOl : Hid ((L.take n7).length = n7) := Lib.hid (by rw [List.length_take]; omega)
      clear hc h hr
      generalize L[n7] = r0 at *
      generalize L.take n7 = T0 at *
      have hfl := hli.flat
      have hwb : Below w.heap.size w (wr.alloc (.cells #[.slice r0.ad r0.ps.length r0.cp, .int .i64 r0.st, .int .i64 r0.en] 34)) := hnx.alloc hs1 _
      have dwb := (Below.refl wr.heap.size wr).alloc (Nat.le_refl _) (.cells #[.slice r0.ad r0.ps.length r0.cp, .int .i64 r0.st, .int .i64 r0.en] 34)
      have hx1 : (wr.alloc (.cells #[.slice r0.ad r0.ps.length r0.cp, .int .i64 r0.st, .int .i64 r0.en] 34)).cell? ⟨wr.heap.size, 0, none⟩ = some (.slice r0.ad r0.ps.length r0.cp) := by rw [World.cell?_alloc_mark]; rfl
      have hx2 : (wr.alloc (.cells #[.slice r0.ad r0.ps.length r0.cp, .int .i64 r0.st, .int .i64 r0.en] 34)).cell? ⟨wr.heap.size, 1, none⟩ = some (.int .i64 r0.st) := by rw [World.cell?_alloc_mark]; rfl
      have hx3 : (wr.alloc (.cells #[.slice r0.ad r0.ps.length r0.cp, .int .i64 r0.st, .int .i64 r0.en] 34)).cell? ⟨wr.heap.size, 2, none⟩ = some (.int .i64 r0.en) := by rw [World.cell?_alloc_mark]; rfl
      have hsb : (wr.alloc (.cells #[.slice r0.ad r0.ps.length r0.cp, .int .i64 r0.st, .int .i64 r0.en] 34)).heap.size = wr.heap.size + 1 := by simp
      have hxne : some wr.heap.size ≠ (Value.slice a7 n7 c7).ownBlock := fun e => absurd (HO.out.lt _ e.symm).2 (Nat.lt_irrefl _)
      have hpb := hpa.below dwb (Nat.le_refl _)
      have HOb := Lib.hid (HO.out.onB dwb (Nat.le_refl _))
      go_wp2
      generalize wr.alloc (.cells #[.slice r0.ad r0.ps.length r0.cp, .int .i64 r0.st, .int .i64 r0.en] 34) = wb at *
      have hvb := hv.on (hwb.mono hB)
      generalize wr.heap.size = x at *
      clear hc1 hc2 hc3 hpa dwb HO hnx hvr
      have hwbs := hwb.size
      have HKe : Hid (r0.key = keyL r0.ps) := Lib.hid rfl
      go_region_held3 (fun w' => w'.cell? ⟨x, 0, none⟩ = some (.slice r0.ad r0.ps.length r0.cp) ∧ w'.cell? ⟨x, 1, none⟩ = some (.int .i64 r0.st) ∧ w'.cell? ⟨x, 2, none⟩ = some (.int .i64 r0.en)) (first | go_keep | (exact keep3_below hb1 (by simp; omega) (by assumption)) | (exact keep3_grown hgrow3 (by simp; omega) (by assumption) hxne))
        (first
          | (go_at_call 51; refine (Key_any r0.ad r0.cp r0.ps B wb.drew (hpb.below (Below.refl _ _).drew (Nat.le_refl _)) (by have := hli.1; omega) (fun p hp => by have := hli.2 p hp; omega) (by omega) (by simp; omega) (hvb.on (Below.refl _ _).drew) _ rfl).mono ?_; rintro e w1 ⟨rfl, hb1⟩; have hq1 : wb.heap.size ≤ w1.heap.size := by simpa using hb1.size)
          | (refine step_append_lies _ (by rfl) _ _ 60 (by rfl) w.heap.size 63 i0 (.agg #[.slice none 0 0, .int .i64 0, .int .i64 0, .string ⟨#[]⟩]) 4 56 Tryd.underlying60 hi hi0 hi1 hi2 rfl (by decide) (.slice a7 n7 c7) n7 (cellsK T0) (by rfl) (by have := World.ownsRow.alloc ((HOb.out.onB (Below.refl _ _).drew (Nat.le_refl _)).onB hb1 (by simp)) (.cells #[.slice r0.ad r0.ps.length r0.cp, .int .i64 r0.st, .int .i64 r0.en, .string ⟨(keyL r0.ps).toArray⟩] 63); rw [HOl.out] at this; exact this) ⟨w1.heap.size, 0, none⟩ 1 1 [.slice r0.ad r0.ps.length r0.cp, .int .i64 r0.st, .int .i64 r0.en, .string ⟨(keyL r0.ps).toArray⟩] (by rfl) rfl (World.news_of_block (cs := #[.slice r0.ad r0.ps.length r0.cp, .int .i64 r0.st, .int .i64 r0.en, .string ⟨(keyL r0.ps).toArray⟩]) (heap_alloc_new _ _)) (by intro u' hu'; simp at hu'; rcases hu' with rfl | rfl | rfl | rfl <;> rfl) (by decide) (by unfold maxLen; omega) (by omega) (by simp; omega) (w1.heap.size + 1) (by simp) ?_; intro g cap w3 hown3 hgrow3 hat3 hlt3))
      have hbb : Below wb.heap.size wb w1 := (Below.refl wb.heap.size wb).drew.trans (hb1.mono (by simp))
      have HO3 : Hid (OwnK w3 w.heap.size (.slice (some ⟨g, 0, none⟩) (n7 + 1) cap) (L.take (n7 + 1))) := Lib.hid (by
        rw [HT.out]
        refine OwnK.push ?_
        rw [HOl.out]
        exact hown3)
      have hnx3 : Below w.heap.size w w3 := ((hwb.trans (hbb.mono hwbs)).alloc (by omega) _).grown hgrow3 (by simp; omega) (fun j hj => (HOb.out.lt j hj).1)
      clear hown3 hgrow3 hat3
      go_wp2
      go_roundw
      case rel => exact ⟨n7 + 1, _, _, _, by omega, by go_num, rfl, rfl, HO3, hnx3⟩
      case measure => simp [intOf]; omega
    · obtain rfl : n7 = L.length := by omega
      rw [List.take_length] at HO
      have HS := Lib.hid (kSort_own a7 c7 L w.heap.size wr HO.out hs1 hl _ rfl)
      clear HO h
      go_wp2_with (go_at_call 52; refine HS.out.mono ?_; rintro e w4 ⟨rfl, hk4, hb4⟩; refine Hid.out ?_)
      refine Lib.hid ?_
      have HK4 := Lib.hid (And.intro hk4 (hnx.trans hb4))
      clear hk4 hb4 hnx HS hvr
      go_wp2
      go_ret
      exact ⟨_, _, rfl, HK4.out.1, HK4.out.2⟩

end Go.Proofs.YtdnpfmmkglgnjaaDoor
