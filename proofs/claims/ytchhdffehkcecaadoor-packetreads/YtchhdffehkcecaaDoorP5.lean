/-
  What readList of package packet reads.
-/
import Derived.Test.YtchhdffehkcecaaDoorP4
import Derived.Test.YtchhdffehkcecaaDoorEBack0
namespace Go.Proofs.YtchhdffehkcecaaDoor
open Go Go.RowKit

/-- How many bytes are left, as memory tells it. -/
def leftP (rb : Nat) (w : World) : Nat := match w.cell? ⟨rb, 0, none⟩ with | some (.slice _ n _) => n | _ => 0
theorem Rd.leftP {w : World} {rb : Nat} {a : Option Addr} {c : Nat} {l : List UInt8} {e : Int} (h : Rd w rb a c l e) : leftP rb w = l.length := by
  unfold Go.Proofs.YtchhdffehkcecaaDoor.leftP
  rw [h.blk.cell0]
theorem moreB_posP {l : List UInt8} (h : moreB l = true) : 0 < l.length := by
  cases l with
  | nil => simp [moreB] at h
  | cons x l => simp
theorem byteE_less {ch : UInt8} {e e1 : Int} {l l1 : List UInt8} (h : byteE ch e l = (l1, e1)) (hl : 0 < l.length) : l1.length < l.length := by
  unfold byteE at h
  split at h
  · cases l with
    | nil => simp at hl
    | cons x l =>
      rw [show rdByte ch (x :: l) = if x = ch then (l, 0) else ([], 4) from rfl] at h
      by_cases hx : x = ch
      · rw [if_pos hx] at h
        obtain ⟨rfl, -⟩ := Prod.mk.inj h
        simp
      · rw [if_neg hx] at h
        obtain ⟨rfl, -⟩ := Prod.mk.inj h
        simp
  · simp only [Prod.mk.injEq] at h; rw [← h.1]; simpa using hl
theorem rdMem_less {e : Int} {l : List UInt8} (hl : 0 < l.length) : (rdMem e l).2.1.length < l.length := by
  rcases h0 : byteE 108 e l with ⟨l0, e0⟩
  rcases h1 : intE e0 l0 with ⟨l1, e1, z1⟩
  rcases h2 : intE e1 l1 with ⟨l2, e2, z2⟩
  rcases h3 : intE e2 l2 with ⟨l3, e3, z3⟩
  rcases h4 : byteE 101 e3 l3 with ⟨l4, e4⟩
  simp only [rdMem, h0, h1, h2, h3, h4]
  have a0 := byteE_less h0 hl
  have a1 := (intE_err h1).2
  have a2 := (intE_err h2).2
  have a3 := (intE_err h3).2
  have a4 := (byteE_err h4).2
  omega
theorem readEn_less {l : List UInt8} (hl : 0 < l.length) : (readEn l).2.1.length < l.length := by
  rcases h0 : byteE 108 0 l with ⟨l0, e0⟩
  rcases h1 : textE 9223372036854775807 e0 l0 with ⟨l1, e1, s1⟩
  rcases h2 : intE e1 l1 with ⟨l2, e2, z2⟩
  rcases h3 : intE e2 l2 with ⟨l3, e3, z3⟩
  rcases h4 : textE 9223372036854775807 e3 l3 with ⟨l4, e4, s4⟩
  rcases h5 : intE e4 l4 with ⟨l5, e5, z5⟩
  rcases h6 : byteE 101 e5 l5 with ⟨l6, e6⟩
  simp only [readEn, h0, h1, h2, h3, h4, h5, h6]
  have a0 := byteE_less h0 hl
  have a1 := (textE_err h1).2
  have a2 := (intE_err h2).2
  have a3 := (intE_err h3).2
  have a4 := (textE_err h4).2
  have a5 := (intE_err h5).2
  have a6 := (byteE_err h6).2
  omega

def cellsMx (L : List Mem) : List Value := L.flatMap encM
theorem cellsMx_append (L M : List Mem) : cellsMx (L ++ M) = cellsMx L ++ cellsMx M := List.flatMap_append
theorem cellsMx_get : ∀ (L : List Mem) (i : Nat) (hi : i < L.length) (j : Nat) (v : Value), (encM L[i])[j]? = some v → (cellsMx L)[i * 3 + j]? = some v
  | p :: r, 0, _, j, v, hv => by
    have e : cellsMx (p :: r) = encM p ++ cellsMx r := rfl
    have hv' : (encM p)[j]? = some v := hv
    have hj := (List.getElem?_eq_some_iff.1 hv').1
    rw [e, Nat.zero_mul, Nat.zero_add, List.getElem?_append_left hj]
    exact hv'
  | p :: r, i + 1, hi, j, v, hv => by
    have := cellsMx_get r i (by simpa using hi) j v hv
    have e : cellsMx (p :: r) = encM p ++ cellsMx r := rfl
    have l : (encM p).length = 3 := rfl
    rw [e, List.getElem?_append_right (by omega), l, show (i + 1) * 3 + j - 3 = i * 3 + j by omega]
    exact this
/-- A slice of the call's own. -/
def OwnMx (w : World) (B : Nat) (v : Value) (L : List Mem) : Prop := w.ownsRow B 45 3 v L.length (cellsMx L)
theorem infoMx : (Tryd.prog.info? 45).map (fun i => (i.zero, i.size, i.bytes)) = some (some (.agg #[.int .u16 0, .int .u8 0, .int .i64 0]), 3, 16) := by kernel_rfl
theorem OwnMx.push {w : World} {B : Nat} {v : Value} {L : List Mem} {r : Mem} (h : w.ownsRow B 45 3 v (L.length + 1) (cellsMx L ++ encM r)) : OwnMx w B v (L ++ [r]) := by
  unfold OwnMx
  rw [cellsMx_append, List.length_append]
  simpa [cellsMx] using h
theorem OwnMx.nil (w : World) (B : Nat) : OwnMx w B (.slice none 0 0) [] := World.ownsRow_nil _ _ _ _
theorem OwnMx.turn {w w' : World} {B rb : Nat} {v : Value} {L : List Mem} (h : OwnMx w B v L) (g : w.grownBy w' (some rb)) (hr : rb < B) : OwnMx w' B v L :=
  World.ownsRow.kept h g (.inr fun e => by have := (World.ownsRow.lt h rb e).1; omega)
theorem OwnMx.form {w : World} {B : Nat} {v : Value} {L : List Mem} (h : OwnMx w B v L) : ∃ a c, v = .slice a L.length c ∧ (a = none → c = 0) ∧ (∀ q, a = some q → B ≤ q.block ∧ q.block < w.heap.size) ∧ MemsAt w a L := by
  rcases h.2 with ⟨rfl, h0⟩ | ⟨g, cap, cur, rfl, hg0, hg1, hcap, hmax, hcs, htk⟩
  · exact ⟨none, 0, by rw [h0], fun _ => rfl, (fun q e => by cases e), fun hn => by omega⟩
  · refine ⟨_, _, rfl, (fun e => by cases e), (fun q e => by obtain rfl := Option.some.inj e; exact ⟨hg0, ltE hg1⟩), fun hn => ⟨g, 0, rfl, ltE hg1, fun i hi j v hv => ?_⟩⟩
    have hj := (List.getElem?_eq_some_iff.1 hv).1
    have l5 : (encM L[i]).length = 3 := rfl
    rw [Nat.zero_add, World.ownsRow.cellAt h _ (by omega)]
    exact cellsMx_get L i hi j v hv
def rdMs : Nat → Int → List UInt8 → List Mem × List UInt8 × Int
  | 0, e, l => ([], l, e)
  | f + 1, e, l => if moreB l = true then ((rdMem e l).1 :: (rdMs f (rdMem e l).2.2 (rdMem e l).2.1).1, (rdMs f (rdMem e l).2.2 (rdMem e l).2.1).2) else ([], l, e)
/-- What is still to be read. -/
structure MsTo (acc : List Mem) (e : Int) (l : List UInt8) (R : List Mem × List UInt8 × Int) : Prop where
  is : ∃ f, l.length < f ∧ R = (acc ++ (rdMs f e l).1, (rdMs f e l).2)
theorem MsTo.round {acc : List Mem} {e : Int} {l : List UInt8} {R : List Mem × List UInt8 × Int} (h : MsTo acc e l R) (hm : moreB l = true) : MsTo (acc ++ [(rdMem e l).1]) (rdMem e l).2.2 (rdMem e l).2.1 R := by
  obtain ⟨f, hf, hR⟩ := h.is
  cases f with
  | zero => omega
  | succ f =>
    rw [rdMs, if_pos hm] at hR
    have := rdMem_less (e := e) (moreB_posP hm)
    exact ⟨f, by omega, by rw [hR]; simp⟩
theorem MsTo.out {acc : List Mem} {e : Int} {l : List UInt8} {R : List Mem × List UInt8 × Int} (h : MsTo acc e l R) (hm : moreB l = false) : R = (acc, l, e) := by
  obtain ⟨f, hf, hR⟩ := h.is
  cases f with
  | zero => omega
  | succ f =>
    rw [rdMs, if_neg (by rw [hm]; simp)] at hR
    simpa using hR
/-- What readList reads. -/
def rdLM (e : Int) (l : List UInt8) : List Mem × List UInt8 × Int :=
  let b := byteE 108 e l
  let t := rdMs (b.1.length + 1) b.2 b.1
  let c := byteE 101 t.2.2 t.2.1
  (t.1, c.1, c.2)
def LMPost (rb : Nat) (e0 : Int) (l : List UInt8) (w : World) (e : Ending) (w' : World) : Prop := ∃ a n c, e = .returned (.slice a n c) ∧ OwnMx w' w.heap.size (.slice a n c) (rdLM e0 l).1 ∧ (∃ a c, Rd w' rb a c (rdLM e0 l).2.1 (rdLM e0 l).2.2) ∧ w.grownBy w' (some rb)
set_option maxRecDepth 100000 in
set_option maxHeartbeats 4000000 in
theorem pListM_any (rb : Nat) (a : Option Addr) (c : Nat) (l : List UInt8) (e : Int) (B : Nat) (w : World) (h : Rd w rb a c l e) (hB : B ≤ rb) (hv : VarsOk B w) (hl : l.length ≤ 1000000) :
    Calls Tryd.prog 54 #[.pointer (some ⟨rb, 0, none⟩), .func (.func 55) #[] #[]] w (LMPost rb e l w) := by
  have eg : ∀ args w, (callFunc 55 args).run Tryd.prog w = .ok (.enter 55 args) w := enters_of Tryd.func55 (by kernel_rfl) rfl
  obtain ⟨i0, hi, hz⟩ : ∃ i, Tryd.prog.info? 45 = some i ∧ (i.zero, i.size, i.bytes) = (some (.agg #[.int .u16 0, .int .u8 0, .int .i64 0]), 3, 16) := by
    have h := infoMx
    cases hq : Tryd.prog.info? 45 with
    | none => rw [hq] at h; cases h
    | some i => rw [hq] at h; exact ⟨i, rfl, by simpa using h⟩
  simp only [Prod.mk.injEq] at hz
  obtain ⟨hi0, hi1, hi2⟩ := hz
  rcases h0 : byteE 108 e l with ⟨l0, e0⟩
  rcases ht : rdMs (l0.length + 1) e0 l0 with ⟨L, l1, e1⟩
  rcases h2 : byteE 101 e1 l1 with ⟨l2, e2⟩
  have hres : rdLM e l = (L, l2, e2) := by simp only [rdLM, h0, ht, h2]
  unfold LMPost
  rw [hres]
  dsimp only
  have HTo : Hid (MsTo [] e0 l0 (L, l1, e1)) := Lib.hid ⟨l0.length + 1, by omega, by rw [ht]; rfl⟩
  have hl0 := (byteE_err h0).2
  have s0 : RSt w w rb B a c l e := RSt.start h hB hv
  have HO := Lib.hid (Open_full rb a c l e w h h0)
  have H2 := Lib.hid h2
  have HS0 := Lib.hid s0
  have hl0' : l0.length ≤ 1000000 := by omega
  have HI := Lib.hid (And.intro hi (And.intro hi0 (And.intro hi1 hi2)))
  clear h0 ht h2 hres s0 h hB hv hl hl0 hi hi0 hi1 hi2
  go_enter Tryd.func54, Tryd.ntmps54
  go_wp2_with (go_at_call 52; refine HO.out.mono ?_; rintro e w1 ⟨rfl, ⟨a1, c1, r1⟩, g1⟩; refine Hid.out ?_)
  refine Lib.hid ?_
  have HS1 := Lib.hid (HS0.out.turn g1 r1)
  clear HO HS0 g1 r1
  go_wp2
  go_loopw [5] (fun v wr => ∃ (acc : List Mem) (l : List UInt8) (e : Int) (ar : Option Addr) (cr : Nat) (a5 : Option Addr) (n5 c5 : Nat), v = .slice a5 n5 c5 ∧ Hid (OwnMx wr w.heap.size (.slice a5 n5 c5) acc) ∧ Hid (RSt w wr rb B ar cr l e) ∧ Hid (MsTo acc e l (L, l1, e1)) ∧ acc.length + l.length ≤ 1000000) (fun _ wr => leftP rb wr)
  case atStart => exact ⟨[], l0, e0, a1, c1, none, 0, 0, rfl, Lib.hid (OwnMx.nil _ _), HS1, HTo, by simpa using hl0'⟩
  case round =>
    obtain ⟨acc, l, e, ar, cr, a5, n5, c5, rfl, HO5, HS, HC, hab⟩ := hrel
    clear HS1 HTo hl0'
    have HMo := Lib.hid (More_any rb ar cr l e wr HS.out.rd)
    cases hm : moreB l with
    | true =>
      rw [hm] at HMo
      have he : e = 0 := by
        by_cases h : e = 0
        · exact h
        · have := HS.out.rd.err h
          rw [this] at hm
          simp [moreB] at hm
      have HC2 := Lib.hid (HC.out.round hm)
      have hlt := rdMem_less (e := e) (moreB_posP hm)
      have HLe := Lib.hid (And.intro HS.out.rd.leftP hlt)
      subst he
      have HR := Lib.hid (pReadM_any rb ar cr l 0 B wr HS.out.rd HS.out.hB HS.out.vars)
      clear HC hm hlt
      go_wp2_with (go_at_call 69; refine HMo.out.mono ?_; rintro e w4 ⟨rfl, rfl⟩; refine Hid.out ?_)
      refine Lib.hid ?_
      unfold RdMPost at HR
      obtain ⟨X, l3, e3, hX⟩ : ∃ X l3 e3, (rdMem 0 l) = (X, l3, e3) := ⟨_, _, _, rfl⟩
      rw [hX] at HR HC2 HLe
      dsimp only at HR HC2 HLe
      clear hX HMo
      obtain ⟨nx, sx, ix⟩ := X
      dsimp only at HR
      go_wp2_with (go_at_fn 55; refine HR.out.mono ?_; rintro e w5 ⟨rfl, ⟨a6, c6, r6⟩, g6⟩; refine Hid.out ?_)
      refine Lib.hid ?_
      have s6 := HS.out.turn g6 r6
      have hown := HO5.out.turn g6 HS.out.lt
      have hsz := s6.size
      have hlen : acc.length ≤ 1000000 := by omega
      obtain ⟨hi, hi0, hi1, hi2⟩ := HI.out
      have HSS := Lib.hid s6
      have HOW := Lib.hid hown
      have HCO := Lib.hid (show acc.length + 1 + l3.length ≤ 1000000 by have := HLe.out.2; omega)
      clear s6 g6 r6 HR HO5 HS
      have hown3 : w5.ownsRow w.heap.size 45 3 (.slice a5 n5 c5) acc.length (cellsMx acc) := hown
      clear hown
      go_wp2_with (at_builtin; refine wpList_append_own _ rfl _ _ 23 rfl w.heap.size 45 i0 _ 3 16 Tryd.underlying23 hi hi0 hi1 hi2 rfl (by decide) _ _ _ rfl (World.ownsRow.alloc hown3 _) ⟨_, 0, none⟩ 1 1 [.int .u16 nx, .int .u8 sx, .int .i64 ix] rfl rfl (World.news_of_block (cs := #[.int .u16 nx, .int .u8 sx, .int .i64 ix]) (newE _ _)) (by intro u' hu'; simp at hu'; rcases hu' with rfl | rfl | rfl <;> rfl) (by unfold maxLen; omega) (by omega) (by simp; omega) ?_; refine Hid.out ?_)
      refine Lib.hid ?_
      intro v7 w7 hown7 hg7 _
      have hA7 : OwnMx w7 w.heap.size v7 (acc ++ [⟨nx, sx, ix⟩]) := OwnMx.push hown7
      obtain ⟨a7, c7, rfl, -, -, -⟩ := hA7.form
      have s7 := (HSS.out.below ((Below.refl w5.heap.size w5).alloc (Nat.le_refl _) _)).row hg7 (fun j hj => (World.ownsRow.lt hown3 j hj).1)
      have HF := Lib.hid (And.intro hA7 s7)
      clear hA7 s7 hown7 hg7 hown3 HSS HOW hi hi0 hi1 hi2 hsz
      generalize (acc ++ [(⟨nx, sx, ix⟩ : Mem)]).length = n7 at *
      go_wp2
      go_roundw
      case rel => exact ⟨acc ++ [⟨nx, sx, ix⟩], l3, e3, a6, c6, _, _, _, rfl, Lib.hid HF.out.1, Lib.hid HF.out.2, HC2, by have := HCO.out; simpa using this⟩
      case measure => rw [HF.out.2.rd.leftP, HLe.out.1]; exact HLe.out.2
    | false =>
      rw [hm] at HMo
      have hR := HC.out.out hm
      simp only [Prod.mk.injEq] at hR
      obtain ⟨rfl, rfl, rfl⟩ := hR
      clear HC hm
      go_wp2_with (go_at_call 69; refine HMo.out.mono ?_; rintro e w4 ⟨rfl, rfl⟩; refine Hid.out ?_)
      refine Lib.hid ?_
      have HCl := Lib.hid (Close_full rb ar cr _ _ _ HS.out.rd H2.out)
      clear HMo
      go_wp2_with (go_at_call 70; refine HCl.out.mono ?_; rintro e w5 ⟨rfl, ⟨a6, c6, r6⟩, g6⟩; refine Hid.out ?_)
      refine Lib.hid ?_
      have HF := Lib.hid (And.intro (HO5.out.turn g6 HS.out.lt) (HS.out.turn g6 r6))
      clear HCl g6 r6 HO5 HS
      go_wp2
      go_ret
      exact ⟨a5, n5, c5, rfl, HF.out.1, ⟨a6, c6, HF.out.2.rd⟩, HF.out.2.grown⟩

def cellsEx (L : List Ent) : List Value := L.flatMap encE
theorem cellsEx_append (L M : List Ent) : cellsEx (L ++ M) = cellsEx L ++ cellsEx M := List.flatMap_append
theorem cellsEx_get : ∀ (L : List Ent) (i : Nat) (hi : i < L.length) (j : Nat) (v : Value), (encE L[i])[j]? = some v → (cellsEx L)[i * 5 + j]? = some v
  | p :: r, 0, _, j, v, hv => by
    have e : cellsEx (p :: r) = encE p ++ cellsEx r := rfl
    have hv' : (encE p)[j]? = some v := hv
    have hj := (List.getElem?_eq_some_iff.1 hv').1
    rw [e, Nat.zero_mul, Nat.zero_add, List.getElem?_append_left hj]
    exact hv'
  | p :: r, i + 1, hi, j, v, hv => by
    have := cellsEx_get r i (by simpa using hi) j v hv
    have e : cellsEx (p :: r) = encE p ++ cellsEx r := rfl
    have l : (encE p).length = 5 := rfl
    rw [e, List.getElem?_append_right (by omega), l, show (i + 1) * 5 + j - 5 = i * 5 + j by omega]
    exact this
/-- A slice of the call's own. -/
def OwnEx (w : World) (B : Nat) (v : Value) (L : List Ent) : Prop := w.ownsRow B 48 5 v L.length (cellsEx L)
theorem infoEx : (Tryd.prog.info? 48).map (fun i => (i.zero, i.size, i.bytes)) = some (some (.agg #[.string ⟨#[]⟩, .int .i64 0, .int .u16 0, .string ⟨#[]⟩, .int .i64 0]), 5, 56) := by kernel_rfl
theorem OwnEx.push {w : World} {B : Nat} {v : Value} {L : List Ent} {r : Ent} (h : w.ownsRow B 48 5 v (L.length + 1) (cellsEx L ++ encE r)) : OwnEx w B v (L ++ [r]) := by
  unfold OwnEx
  rw [cellsEx_append, List.length_append]
  simpa [cellsEx] using h
theorem OwnEx.nil (w : World) (B : Nat) : OwnEx w B (.slice none 0 0) [] := World.ownsRow_nil _ _ _ _
theorem OwnEx.turn {w w' : World} {B rb : Nat} {v : Value} {L : List Ent} (h : OwnEx w B v L) (g : w.grownBy w' (some rb)) (hr : rb < B) : OwnEx w' B v L :=
  World.ownsRow.kept h g (.inr fun e => by have := (World.ownsRow.lt h rb e).1; omega)
theorem OwnEx.form {w : World} {B : Nat} {v : Value} {L : List Ent} (h : OwnEx w B v L) : ∃ a c, v = .slice a L.length c ∧ (a = none → c = 0) ∧ (∀ q, a = some q → B ≤ q.block ∧ q.block < w.heap.size) ∧ EntsAt w a L := by
  rcases h.2 with ⟨rfl, h0⟩ | ⟨g, cap, cur, rfl, hg0, hg1, hcap, hmax, hcs, htk⟩
  · exact ⟨none, 0, by rw [h0], fun _ => rfl, (fun q e => by cases e), fun hn => by omega⟩
  · refine ⟨_, _, rfl, (fun e => by cases e), (fun q e => by obtain rfl := Option.some.inj e; exact ⟨hg0, ltE hg1⟩), fun hn => ⟨g, 0, rfl, ltE hg1, fun i hi j v hv => ?_⟩⟩
    have hj := (List.getElem?_eq_some_iff.1 hv).1
    have l5 : (encE L[i]).length = 5 := rfl
    rw [Nat.zero_add, World.ownsRow.cellAt h _ (by omega)]
    exact cellsEx_get L i hi j v hv
def rdEs : Nat → Int → List UInt8 → List Ent × List UInt8 × Int
  | 0, e, l => ([], l, e)
  | f + 1, e, l => if moreB l = true then ((readEn l).1 :: (rdEs f (readEn l).2.2 (readEn l).2.1).1, (rdEs f (readEn l).2.2 (readEn l).2.1).2) else ([], l, e)
/-- What is still to be read. -/
structure EsTo (acc : List Ent) (e : Int) (l : List UInt8) (R : List Ent × List UInt8 × Int) : Prop where
  is : ∃ f, l.length < f ∧ R = (acc ++ (rdEs f e l).1, (rdEs f e l).2)
theorem EsTo.round {acc : List Ent} {e : Int} {l : List UInt8} {R : List Ent × List UInt8 × Int} (h : EsTo acc e l R) (hm : moreB l = true) : EsTo (acc ++ [(readEn l).1]) (readEn l).2.2 (readEn l).2.1 R := by
  obtain ⟨f, hf, hR⟩ := h.is
  cases f with
  | zero => omega
  | succ f =>
    rw [rdEs, if_pos hm] at hR
    have := readEn_less (moreB_posP hm)
    exact ⟨f, by omega, by rw [hR]; simp⟩
theorem EsTo.out {acc : List Ent} {e : Int} {l : List UInt8} {R : List Ent × List UInt8 × Int} (h : EsTo acc e l R) (hm : moreB l = false) : R = (acc, l, e) := by
  obtain ⟨f, hf, hR⟩ := h.is
  cases f with
  | zero => omega
  | succ f =>
    rw [rdEs, if_neg (by rw [hm]; simp)] at hR
    simpa using hR
/-- What readList reads. -/
def rdLE (e : Int) (l : List UInt8) : List Ent × List UInt8 × Int :=
  let b := byteE 108 e l
  let t := rdEs (b.1.length + 1) b.2 b.1
  let c := byteE 101 t.2.2 t.2.1
  (t.1, c.1, c.2)
def LEPost (rb : Nat) (e0 : Int) (l : List UInt8) (w : World) (e : Ending) (w' : World) : Prop := ∃ a n c, e = .returned (.slice a n c) ∧ OwnEx w' w.heap.size (.slice a n c) (rdLE e0 l).1 ∧ (∃ a c, Rd w' rb a c (rdLE e0 l).2.1 (rdLE e0 l).2.2) ∧ w.grownBy w' (some rb)
set_option maxRecDepth 100000 in
set_option maxHeartbeats 4000000 in
theorem pListE_any (rb : Nat) (a : Option Addr) (c : Nat) (l : List UInt8) (e : Int) (B : Nat) (w : World) (h : Rd w rb a c l e) (hB : B ≤ rb) (hv : VarsOk B w) (hl : l.length ≤ 1000000) :
    Calls Tryd.prog 56 #[.pointer (some ⟨rb, 0, none⟩), .func (.func 57) #[] #[]] w (LEPost rb e l w) := by
  have eg : ∀ args w, (callFunc 57 args).run Tryd.prog w = .ok (.enter 57 args) w := enters_of Tryd.func57 (by kernel_rfl) rfl
  obtain ⟨i0, hi, hz⟩ : ∃ i, Tryd.prog.info? 48 = some i ∧ (i.zero, i.size, i.bytes) = (some (.agg #[.string ⟨#[]⟩, .int .i64 0, .int .u16 0, .string ⟨#[]⟩, .int .i64 0]), 5, 56) := by
    have h := infoEx
    cases hq : Tryd.prog.info? 48 with
    | none => rw [hq] at h; cases h
    | some i => rw [hq] at h; exact ⟨i, rfl, by simpa using h⟩
  simp only [Prod.mk.injEq] at hz
  obtain ⟨hi0, hi1, hi2⟩ := hz
  rcases h0 : byteE 108 e l with ⟨l0, e0⟩
  rcases ht : rdEs (l0.length + 1) e0 l0 with ⟨L, l1, e1⟩
  rcases h2 : byteE 101 e1 l1 with ⟨l2, e2⟩
  have hres : rdLE e l = (L, l2, e2) := by simp only [rdLE, h0, ht, h2]
  unfold LEPost
  rw [hres]
  dsimp only
  have HTo : Hid (EsTo [] e0 l0 (L, l1, e1)) := Lib.hid ⟨l0.length + 1, by omega, by rw [ht]; rfl⟩
  have hl0 := (byteE_err h0).2
  have s0 : RSt w w rb B a c l e := RSt.start h hB hv
  have HO := Lib.hid (Open_full rb a c l e w h h0)
  have H2 := Lib.hid h2
  have HS0 := Lib.hid s0
  have hl0' : l0.length ≤ 1000000 := by omega
  have HI := Lib.hid (And.intro hi (And.intro hi0 (And.intro hi1 hi2)))
  clear h0 ht h2 hres s0 h hB hv hl hl0 hi hi0 hi1 hi2
  go_enter Tryd.func56, Tryd.ntmps56
  go_wp2_with (go_at_call 52; refine HO.out.mono ?_; rintro e w1 ⟨rfl, ⟨a1, c1, r1⟩, g1⟩; refine Hid.out ?_)
  refine Lib.hid ?_
  have HS1 := Lib.hid (HS0.out.turn g1 r1)
  clear HO HS0 g1 r1
  go_wp2
  go_loopw [5] (fun v wr => ∃ (acc : List Ent) (l : List UInt8) (e : Int) (ar : Option Addr) (cr : Nat) (a5 : Option Addr) (n5 c5 : Nat), v = .slice a5 n5 c5 ∧ Hid (OwnEx wr w.heap.size (.slice a5 n5 c5) acc) ∧ Hid (RSt w wr rb B ar cr l e) ∧ Hid (EsTo acc e l (L, l1, e1)) ∧ acc.length + l.length ≤ 1000000) (fun _ wr => leftP rb wr)
  case atStart => exact ⟨[], l0, e0, a1, c1, none, 0, 0, rfl, Lib.hid (OwnEx.nil _ _), HS1, HTo, by simpa using hl0'⟩
  case round =>
    obtain ⟨acc, l, e, ar, cr, a5, n5, c5, rfl, HO5, HS, HC, hab⟩ := hrel
    clear HS1 HTo hl0'
    have HMo := Lib.hid (More_any rb ar cr l e wr HS.out.rd)
    cases hm : moreB l with
    | true =>
      rw [hm] at HMo
      have he : e = 0 := by
        by_cases h : e = 0
        · exact h
        · have := HS.out.rd.err h
          rw [this] at hm
          simp [moreB] at hm
      have HC2 := Lib.hid (HC.out.round hm)
      have hlt := readEn_less (moreB_posP hm)
      have HLe := Lib.hid (And.intro HS.out.rd.leftP hlt)
      subst he
      have HR := Lib.hid (eRead_any rb ar cr l B wr HS.out.rd HS.out.hB HS.out.vars)
      clear HC hm hlt
      go_wp2_with (go_at_call 69; refine HMo.out.mono ?_; rintro e w4 ⟨rfl, rfl⟩; refine Hid.out ?_)
      refine Lib.hid ?_
      unfold ReadPost at HR
      obtain ⟨X, l3, e3, hX⟩ : ∃ X l3 e3, (readEn l) = (X, l3, e3) := ⟨_, _, _, rfl⟩
      rw [hX] at HR HC2 HLe
      dsimp only at HR HC2 HLe
      clear hX HMo
      obtain ⟨kx, tx, ox, vx, ux⟩ := X
      dsimp only at HR
      go_wp2_with (go_at_fn 57; refine HR.out.mono ?_; rintro e w5 ⟨rfl, ⟨a6, c6, r6⟩, g6⟩; refine Hid.out ?_)
      refine Lib.hid ?_
      have s6 := HS.out.turn g6 r6
      have hown := HO5.out.turn g6 HS.out.lt
      have hsz := s6.size
      have hlen : acc.length ≤ 1000000 := by omega
      obtain ⟨hi, hi0, hi1, hi2⟩ := HI.out
      have HSS := Lib.hid s6
      have HOW := Lib.hid hown
      have HCO := Lib.hid (show acc.length + 1 + l3.length ≤ 1000000 by have := HLe.out.2; omega)
      clear s6 g6 r6 HR HO5 HS
      have hown3 : w5.ownsRow w.heap.size 48 5 (.slice a5 n5 c5) acc.length (cellsEx acc) := hown
      clear hown
      go_wp2_with (at_builtin; refine wpList_append_own _ rfl _ _ 24 rfl w.heap.size 48 i0 _ 5 56 Tryd.underlying24 hi hi0 hi1 hi2 rfl (by decide) _ _ _ rfl (World.ownsRow.alloc hown3 _) ⟨_, 0, none⟩ 1 1 [.string kx, .int .i64 tx, .int .u16 ox, .string vx, .int .i64 ux] rfl rfl (World.news_of_block (cs := #[.string kx, .int .i64 tx, .int .u16 ox, .string vx, .int .i64 ux]) (newE _ _)) (by intro u' hu'; simp at hu'; rcases hu' with rfl | rfl | rfl | rfl | rfl <;> rfl) (by unfold maxLen; omega) (by omega) (by simp; omega) ?_; refine Hid.out ?_)
      refine Lib.hid ?_
      intro v7 w7 hown7 hg7 _
      have hA7 : OwnEx w7 w.heap.size v7 (acc ++ [⟨kx, tx, ox, vx, ux⟩]) := OwnEx.push hown7
      obtain ⟨a7, c7, rfl, -, -, -⟩ := hA7.form
      have s7 := (HSS.out.below ((Below.refl w5.heap.size w5).alloc (Nat.le_refl _) _)).row hg7 (fun j hj => (World.ownsRow.lt hown3 j hj).1)
      have HF := Lib.hid (And.intro hA7 s7)
      clear hA7 s7 hown7 hg7 hown3 HSS HOW hi hi0 hi1 hi2 hsz
      generalize (acc ++ [(⟨kx, tx, ox, vx, ux⟩ : Ent)]).length = n7 at *
      go_wp2
      go_roundw
      case rel => exact ⟨acc ++ [⟨kx, tx, ox, vx, ux⟩], l3, e3, a6, c6, _, _, _, rfl, Lib.hid HF.out.1, Lib.hid HF.out.2, HC2, by have := HCO.out; simpa using this⟩
      case measure => rw [HF.out.2.rd.leftP, HLe.out.1]; exact HLe.out.2
    | false =>
      rw [hm] at HMo
      have hR := HC.out.out hm
      simp only [Prod.mk.injEq] at hR
      obtain ⟨rfl, rfl, rfl⟩ := hR
      clear HC hm
      go_wp2_with (go_at_call 69; refine HMo.out.mono ?_; rintro e w4 ⟨rfl, rfl⟩; refine Hid.out ?_)
      refine Lib.hid ?_
      have HCl := Lib.hid (Close_full rb ar cr _ _ _ HS.out.rd H2.out)
      clear HMo
      go_wp2_with (go_at_call 70; refine HCl.out.mono ?_; rintro e w5 ⟨rfl, ⟨a6, c6, r6⟩, g6⟩; refine Hid.out ?_)
      refine Lib.hid ?_
      have HF := Lib.hid (And.intro (HO5.out.turn g6 HS.out.lt) (HS.out.turn g6 r6))
      clear HCl g6 r6 HO5 HS
      go_wp2
      go_ret
      exact ⟨a5, n5, c5, rfl, HF.out.1, ⟨a6, c6, HF.out.2.rd⟩, HF.out.2.grown⟩

end Go.Proofs.YtchhdffehkcecaaDoor
