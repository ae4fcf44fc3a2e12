/-
  A probe as plain functions: who is watched, what is asked, what goes out.
-/
import Derived.Test.YtnoconampcemoaaB3
namespace Go.Proofs.Ytnoconampcemoaa
open Go Go.RowKit

/-- With what a node is watched. -/
structure Wt where
  on : Bool
  i : Int
  a : Int
/-- A probe. -/
structure Pb where
  s : Nat
  per : Int
  tmo : Int
  qn : Nat
  qs : Int
  qt : Int
  qo : Bool
  qh : Bool
  due : Int
  w : Nat → Wt
/-- What goes out. -/
structure Ou where
  to : Int
  kind : Int
  frm : Int
  about : Int
  seq : Int
abbrev zW : Wt := ⟨false, 0, 0⟩
def newPb (s : Nat) (per tmo : Int) : Pb := ⟨s, per, tmo, 0, 0, 0, false, false, 0, fun _ => zW⟩
def timeOk (now : Int) : Bool := decide (0 ≤ now) && decide (now ≤ 1099511627776)
def spanOk (x : Int) : Bool := decide (1 ≤ x) && decide (x ≤ 1099511627776)
def Pb.setW (P : Pb) (k : Nat) (x : Wt) : Pb := { P with w := fun j => if j = k then x else P.w j }
def Pb.shut (P : Pb) : Pb := { P with qo := false }
def Pb.help (P : Pb) : Pb := { P with qh := true }
/-- Whether a member is watched anew. -/
def watchB (P : Pb) (m : Mem) (now : Int) : Bool := (m.s == 1) && (decide (m.n < 64) && (!(m.n == (P.s : Int)) && (timeOk now && !((P.w m.n.toNat).on && decide (m.i ≤ (P.w m.n.toNat).i)))))
def watchP (P : Pb) (m : Mem) (now : Int) : Pb := if watchB P m now = true then P.setW m.n.toNat ⟨true, m.i, now⟩ else P
def ackB (P : Pb) (n s : Int) : Bool := P.qo && (((P.qn : Int) == n) && (P.qs == s))
def ackP (P : Pb) (n s : Int) : Pb := if ackB P n s = true then P.shut else P
/-- Whether a node is suspected as it is watched. -/
def suspB (P : Pb) (T : Tb) (k : Nat) : Bool := ((atT T k).s == 1) && ((atT T k).i == (P.w k).i)
def earlyB (P : Pb) (now : Int) (k : Nat) : Bool := decide (now - (P.w k).a < 3 * P.per)
def buryW (P : Pb) (T : Tb) (now : Int) (k : Nat) : Wt := if (P.w k).on && !(suspB P T k && earlyB P now k) then zW else P.w k
def goneM (P : Pb) (T : Tb) (now : Int) (k : Nat) : Option Mem := if (P.w k).on && (suspB P T k && !earlyB P now k) then some ⟨(atT T k).n, 2, (atT T k).i⟩ else none
def buryTo (P : Pb) (T : Tb) (now : Int) (c : Nat) : Pb := { P with w := fun j => if j < c then buryW P T now j else P.w j }
def goneTo (P : Pb) (T : Tb) (now : Int) (c : Nat) : List Mem := (List.range c).filterMap (goneM P T now)
def buryP (P : Pb) (T : Tb) (now : Int) : Pb := buryTo P T now 64
def goneL (P : Pb) (T : Tb) (now : Int) : List Mem := goneTo P T now 64
def othersL (P : Pb) (T : Tb) : List Int := (thereB T).filter (fun x => !(x == (P.s : Int)))
def helpersL (P : Pb) (T : Tb) : List Int := (othersL P T).filter (fun x => !(x == (P.qn : Int)))
def drawnL (l : List Int) (d : Nat) : Option Int := l[d % l.length]?
/-- What one round does. -/
structure Tk where
  P : Pb
  T : Tb
  o : List Ou
  n : List Mem
def giveP (P : Pb) (T : Tb) (now : Int) : Tk :=
  match T.f P.qn with
  | none => ⟨P.shut, T, [], []⟩
  | some m => ⟨watchP P.shut (atT (hearB T ⟨m.n, 1, m.i⟩) P.qn) now, hearB T ⟨m.n, 1, m.i⟩, [], tellM T ⟨m.n, 1, m.i⟩⟩
def helpP (P : Pb) (T : Tb) (d : Nat) : Tk := ⟨P.help, T, ((drawnL (helpersL P T) d).map fun x => Ou.mk x 2 P.s P.qn P.qs).toList, []⟩
def askP (P : Pb) (T : Tb) (now : Int) (d : Nat) : Tk :=
  match drawnL (othersL P T) d with
  | none => ⟨P, T, [], []⟩
  | some x => ⟨{ P with qn := x.toNat, qs := wrap64 (P.qs + 1), qt := now, qo := true, qh := false, due := now + P.per }, T, [⟨x, 0, P.s, x, wrap64 (P.qs + 1)⟩], []⟩
/-- What is done of an open question. -/
def openP (P : Pb) (T : Tb) (now : Int) (d : Nat) : Tk :=
  if P.qo = false then ⟨P, T, [], []⟩
  else if P.per ≤ now - P.qt then giveP P T now
  else if P.tmo ≤ now - P.qt ∧ P.qh = false then helpP P T d
  else ⟨P, T, [], []⟩
def nextP (P : Pb) (T : Tb) (now : Int) (d : Nat) : Tk := if P.qo = false ∧ P.due ≤ now then askP P T now d else ⟨P, T, [], []⟩
/-- Tick, at a time that may be. -/
def tickP (P : Pb) (T : Tb) (now : Int) (d : Nat) : Tk :=
  let a := openP (buryP P T now) (mergeB T (goneL P T now)) now d
  let b := nextP a.P a.T now d
  ⟨b.P, b.T, a.o ++ b.o, mergeM T (goneL P T now) ++ a.n⟩
def tickAny (P : Pb) (T : Tb) (now : Int) (d : Nat) : Tk := if timeOk now = true then tickP P T now d else ⟨P, T, [], []⟩

theorem timeOk_iff (now : Int) : timeOk now = true ↔ 0 ≤ now ∧ now ≤ 1099511627776 := by simp [timeOk]
theorem spanOk_iff (x : Int) : spanOk x = true ↔ 1 ≤ x ∧ x ≤ 1099511627776 := by simp [spanOk]
/-- What a probe is that may be. -/
structure PbOk (P : Pb) : Prop where
  s : P.s < 64
  per : 1 ≤ P.per ∧ P.per ≤ 1099511627776
  tmo : 1 ≤ P.tmo ∧ P.tmo ≤ 1099511627776
  qn : P.qn < 64
  qt : 0 ≤ P.qt ∧ P.qt ≤ 1099511627776
  due : 0 ≤ P.due ∧ P.due ≤ 2199023255552
  w : ∀ k, 0 ≤ (P.w k).a ∧ (P.w k).a ≤ 1099511627776
theorem newPb_ok {s : Nat} {per tmo : Int} (hs : s < 64) (hp : spanOk per = true) (ht : spanOk tmo = true) : PbOk (newPb s per tmo) :=
  ⟨hs, (spanOk_iff _).1 hp, (spanOk_iff _).1 ht, by simp [newPb], by simp [newPb], by simp [newPb], fun k => by simp [newPb]⟩
theorem PbOk.setW {P : Pb} (h : PbOk P) (k : Nat) {x : Wt} (hx : 0 ≤ x.a ∧ x.a ≤ 1099511627776) : PbOk (P.setW k x) :=
  ⟨h.s, h.per, h.tmo, h.qn, h.qt, h.due, fun j => by
    show 0 ≤ (if j = k then x else P.w j).a ∧ (if j = k then x else P.w j).a ≤ _
    split
    · exact hx
    · exact h.w j⟩
theorem PbOk.shut {P : Pb} (h : PbOk P) : PbOk P.shut := ⟨h.s, h.per, h.tmo, h.qn, h.qt, h.due, h.w⟩
theorem PbOk.help {P : Pb} (h : PbOk P) : PbOk P.help := ⟨h.s, h.per, h.tmo, h.qn, h.qt, h.due, h.w⟩
theorem PbOk.watch {P : Pb} (h : PbOk P) (m : Mem) (now : Int) : PbOk (watchP P m now) := by
  unfold watchP
  split
  · rename_i hb
    unfold watchB at hb
    simp only [Bool.and_eq_true] at hb
    exact h.setW _ ((timeOk_iff now).1 hb.2.2.2.1)
  · exact h
theorem PbOk.ack {P : Pb} (h : PbOk P) (n s : Int) : PbOk (ackP P n s) := by
  unfold ackP
  split
  · exact h.shut
  · exact h
theorem buryW_a {P : Pb} (h : PbOk P) (T : Tb) (now : Int) (k : Nat) : 0 ≤ (buryW P T now k).a ∧ (buryW P T now k).a ≤ 1099511627776 := by
  unfold buryW
  split
  · exact ⟨Int.le_refl _, by decide⟩
  · exact h.w k
theorem PbOk.buryTo {P : Pb} (h : PbOk P) (T : Tb) (now : Int) (c : Nat) : PbOk (buryTo P T now c) :=
  ⟨h.s, h.per, h.tmo, h.qn, h.qt, h.due, fun j => by
    show 0 ≤ (if j < c then buryW P T now j else P.w j).a ∧ (if j < c then buryW P T now j else P.w j).a ≤ _
    split
    · exact buryW_a h T now j
    · exact h.w j⟩
theorem thereB_low {T : Tb} (h : TbOk T) {x : Int} (hx : x ∈ thereB T) : 0 ≤ x ∧ x < 64 := by
  unfold thereB thereL at hx
  obtain ⟨m, hm, rfl⟩ := List.mem_map.1 hx
  have hm2 := (mem_memsB h).1 (List.mem_filter.1 hm).1
  have := h.lt hm2
  have := (h.ok _ m hm2).1
  omega
theorem drawnL_mem {l : List Int} {d : Nat} {x : Int} (h : drawnL l d = some x) : x ∈ l := List.mem_of_getElem? h
theorem othersL_low {P : Pb} {T : Tb} (h : TbOk T) {x : Int} (hx : x ∈ othersL P T) : 0 ≤ x ∧ x < 64 ∧ x ≠ (P.s : Int) := by
  unfold othersL at hx
  obtain ⟨h1, h2⟩ := List.mem_filter.1 hx
  have := thereB_low h h1
  simp at h2
  exact ⟨this.1, this.2, h2⟩
theorem helpersL_low {P : Pb} {T : Tb} (h : TbOk T) {x : Int} (hx : x ∈ helpersL P T) : 0 ≤ x ∧ x < 64 ∧ x ≠ (P.s : Int) ∧ x ≠ (P.qn : Int) := by
  unfold helpersL at hx
  obtain ⟨h1, h2⟩ := List.mem_filter.1 hx
  have := othersL_low h h1
  simp at h2
  exact ⟨this.1, this.2.1, this.2.2, h2⟩
theorem goneM_fit {P : Pb} {T : Tb} (h : TbOk T) {now : Int} {k : Nat} {m : Mem} (e : goneM P T now k = some m) : 0 ≤ m.n ∧ m.s = 2 := by
  unfold goneM at e
  split at e
  · obtain rfl := Option.some.inj e
    refine ⟨?_, rfl⟩
    unfold atT
    cases hf : T.f k with
    | none => exact Int.le_refl _
    | some o => have := (h.ok k o hf).1; simp only [Option.getD_some]; omega
  · cases e
theorem goneTo_fit {P : Pb} {T : Tb} (h : TbOk T) {now : Int} {c : Nat} : ∀ m ∈ goneTo P T now c, 0 ≤ m.n ∧ 0 ≤ m.s := fun m hm => by
  unfold goneTo at hm
  obtain ⟨k, -, e⟩ := List.mem_filterMap.1 hm
  have := goneM_fit h e
  exact ⟨this.1, by omega⟩
theorem goneTo_len (P : Pb) (T : Tb) (now : Int) (c : Nat) : (goneTo P T now c).length ≤ c := by
  have := List.length_filterMap_le (goneM P T now) (List.range c)
  simpa [goneTo] using this
theorem goneTo_succ (P : Pb) (T : Tb) (now : Int) (c : Nat) : goneTo P T now (c + 1) = goneTo P T now c ++ (goneM P T now c).toList := by
  unfold goneTo
  rw [List.range_succ, List.filterMap_append]
  cases h : goneM P T now c <;> simp [h]
theorem buryTo_zero (P : Pb) (T : Tb) (now : Int) : buryTo P T now 0 = P := by
  obtain ⟨s, per, tmo, qn, qs, qt, qo, qh, due, w⟩ := P
  simp [buryTo]
theorem buryTo_at (P : Pb) (T : Tb) (now : Int) (c : Nat) : (buryTo P T now c).w c = P.w c := by
  show (if c < c then _ else _) = _
  rw [if_neg (by omega)]
theorem buryTo_stay (P : Pb) (T : Tb) (now : Int) (c : Nat) (h : buryW P T now c = P.w c) : buryTo P T now (c + 1) = buryTo P T now c := by
  unfold buryTo
  congr 1
  funext j
  by_cases h1 : j < c
  · rw [if_pos h1, if_pos (by omega)]
  · by_cases h2 : j = c
    · subst h2; rw [if_pos (by omega), if_neg h1, h]
    · rw [if_neg (by omega), if_neg h1]
theorem buryTo_drop (P : Pb) (T : Tb) (now : Int) (c : Nat) (h : buryW P T now c = zW) : buryTo P T now (c + 1) = (buryTo P T now c).setW c zW := by
  unfold buryTo Pb.setW
  congr 1
  funext j
  by_cases h2 : j = c
  · subst h2; simp [h]
  · simp only [if_neg h2]
    by_cases h1 : j < c
    · rw [if_pos h1, if_pos (by omega)]
    · rw [if_neg (by omega), if_neg h1]
theorem tick_tb {P : Pb} {T : Tb} (hT : TbOk T) (hP : PbOk P) {now : Int} (hn : timeOk now = true) (d : Nat) : TbOk (tickP P T now d).T ∧ PbOk (tickP P T now d).P := by
  have hn2 := (timeOk_iff now).1 hn
  have hT1 : TbOk (mergeB T (goneL P T now)) := mergeB_ok hT (goneTo_fit hT)
  have hP1 : PbOk (buryP P T now) := hP.buryTo T now 64
  have hA : TbOk (openP (buryP P T now) (mergeB T (goneL P T now)) now d).T ∧ PbOk (openP (buryP P T now) (mergeB T (goneL P T now)) now d).P := by
    generalize mergeB T (goneL P T now) = T1 at *
    generalize buryP P T now = P1 at *
    unfold openP
    split
    · exact ⟨hT1, hP1⟩
    · split
      · unfold giveP
        split
        · exact ⟨hT1, hP1.shut⟩
        · rename_i m hf
          have := hT1.ok _ m hf
          exact ⟨hearB_ok hT1 (by simp only; omega) (by simp), hP1.shut.watch _ _⟩
      · split
        · exact ⟨hT1, hP1.help⟩
        · exact ⟨hT1, hP1⟩
  unfold tickP
  simp only
  generalize openP (buryP P T now) (mergeB T (goneL P T now)) now d = A at *
  obtain ⟨h1, h2⟩ := hA
  unfold nextP
  split
  · unfold askP
    split
    · exact ⟨h1, h2⟩
    · rename_i x hx
      have hx2 := othersL_low h1 (drawnL_mem hx)
      have := h2.per
      exact ⟨h1, ⟨h2.s, h2.per, h2.tmo, by simp only; omega, hn2, by simp only; omega, h2.w⟩⟩
  · exact ⟨h1, h2⟩
theorem tickAny_ok {P : Pb} {T : Tb} (hT : TbOk T) (hP : PbOk P) (now : Int) (d : Nat) : TbOk (tickAny P T now d).T ∧ PbOk (tickAny P T now d).P := by
  unfold tickAny
  split
  · rename_i h; exact tick_tb hT hP h d
  · exact ⟨hT, hP⟩

end Go.Proofs.Ytnoconampcemoaa
