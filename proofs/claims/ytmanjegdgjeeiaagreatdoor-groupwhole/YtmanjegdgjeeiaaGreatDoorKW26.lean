/-
  CheckAll of package match. Whether a configuration may be: what Check of package route tells. What Check of package route tells, and the functions beneath it. What Check of package route tells of one route, of one rule, and of the tree. What Check of package route tells of a rule, of the tree, and of a configuration. What Check of package route tells. Where labels go through a tree: somewhere, nowhere twice, and through routes that all take them.
-/
import Derived.Test.YtmanjegdgjeeiaaGreatDoorKW15
import Derived.Test.YtmanjegdgjeeiaaGreatDoorKW16
import Derived.Test.YtmanjegdgjeeiaaGreatDoorKW25
namespace Go.Proofs.YtmanjegdgjeeiaaGreatDoor
open Go.RowKit Go.Shelf

/-- The first error of matchers. -/
def allE : List Mt → Int
  | [] => 0
  | m :: r => if mErr m ≠ 0 then mErr m else allE r
def checkAllE (ms : List Mt) : Int := if 8 < ms.length then 5 else allE ms
theorem allE_none : ∀ {ms : List Mt}, (∀ m ∈ ms, mErr m = 0) → allE ms = 0
  | [], _ => rfl
  | m :: r, h => by
    unfold allE
    rw [if_neg (by simpa using h m (by simp))]
    exact allE_none fun x hx => h x (by simp [hx])
theorem allE_hit : ∀ {ms : List Mt} {k : Nat} (hk : k < ms.length), (∀ j (_ : j < k) (hj : j < ms.length), mErr ms[j] = 0) → mErr ms[k] ≠ 0 → allE ms = mErr ms[k]
  | m :: r, 0, _, _, h => by
    unfold allE
    exact if_pos h
  | m :: r, k + 1, hk, hz, h => by
    unfold allE
    have h0 : mErr m = 0 := hz 0 (by omega) (by simp)
    rw [if_neg (by simpa using h0)]
    exact allE_hit (k := k) (by simpa using hk) (fun j hj hl => hz (j + 1) (by omega) (by simpa using hl)) h
/-- All may be, or there is a first one that may not. -/
theorem first_bad (ms : List Mt) : (∀ m ∈ ms, mErr m = 0) ∨ ∃ k, ∃ hk : k < ms.length, (∀ j (_ : j < k) (hj : j < ms.length), mErr ms[j] = 0) ∧ mErr ms[k] ≠ 0 := by
  induction ms with
  | nil => left; intro m hm; cases hm
  | cons m r ih =>
    by_cases h : mErr m = 0
    · rcases ih with ih | ⟨k, hk, h1, h2⟩
      · left; intro x hx; rcases List.mem_cons.1 hx with rfl | hx
        · exact h
        · exact ih x hx
      · right
        refine ⟨k + 1, by simpa using hk, fun j hj hl => ?_, h2⟩
        cases j with
        | zero => exact h
        | succ j => exact h1 j (by omega) (by simpa using hl)
    · right
      exact ⟨0, by simp, fun j hj => absurd hj (Nat.not_lt_zero _), h⟩

set_option maxHeartbeats 1000000 in
theorem bad_any (w : World) (htab : TabW w) : PredBelow Tryz.prog 106 #[] (fun x => .agg (encM x).toArray) (fun x => mErr x != 0) w := fun W x hb => by
  obtain ⟨n, o, v⟩ := x
  have hA := hb.alloc hb.size (.cells #[.string n, .int .u8 (o : Int), .string v] 117)
  have HC := Lib.hid (mCheck_any n o v _ (htab.on hA htab.lt))
  show Calls Tryz.prog 106 #[.agg #[.string n, .int .u8 (o : Int), .string v]] W fun e w' => e = .returned (.bool (mErr (n, o, v) != 0)) ∧ Below w.heap.size w w'
  generalize mErr (n, o, v) = E at *
  go_enter Tryz.func106, Tryz.ntmps106
  go_wp2_with (go_at_call 107; refine HC.out.mono ?_; rintro e w1 ⟨rfl, q1⟩)
  go_ret
  exact ⟨rfl, hA.trans (q1.mono hA.size)⟩

set_option maxRecDepth 20000 in
set_option maxHeartbeats 2000000 in
theorem mCheckAll_any (a : Option Addr) (c : Nat) (ms : List Mt) (w : World) (htab : TabW w) (hm : MtsAt w a ms) (hml : ms.length ≤ 9223372036854775807) :
    Calls Tryz.prog 74 #[.slice a ms.length c] w fun e w' => e = .returned (.int .i64 (checkAllE ms)) ∧ Below w.heap.size w w' := by
  unfold checkAllE
  have htl := htab.lt
  by_cases h8 : 8 < ms.length
  · have h8' : (8 : Int) < (ms.length : Int) := by omega
    rw [if_pos h8]
    clear h8
    go_enter Tryz.func74, Tryz.ntmps74
    go_wp2
    go_ret
    exact ⟨rfl, Below.refl _ _⟩
  have h8' : ¬ (8 : Int) < (ms.length : Int) := by omega
  rw [if_neg h8]
  by_cases h0 : ms.length = 0
  · have hms : ms = [] := List.eq_nil_of_length_eq_zero h0
    subst hms
    have HN := Lib.hid (fun fv u => idx_none a c fv u)
    clear h0 h8 h8'
    show Calls Tryz.prog 74 #[.slice a 0 c] w fun e w' => e = .returned (.int .i64 0) ∧ Below w.heap.size w w'
    go_enter Tryz.func74, Tryz.ntmps74
    go_wp2_with (go_at_call 105; refine (HN.out _ _).mono ?_; rintro e w1 ⟨rfl, rfl⟩)
    go_ret
    exact ⟨rfl, Below.refl _ _⟩
  · obtain ⟨mb, mo, rfl, hmb, hc⟩ := hm (by omega)
    have eg : ∀ args w, (callFunc 106 args).run Tryz.prog w = .ok (.enter 106 args) w := enters_of Tryz.func106 (by kernel_rfl) rfl
    have hcon := AnyQ.slices_IndexFunc Tryz.lIdxFunc 3 Tryz.isAgg117 Tryz.sizeOf117 encM (fun _ => rfl) (fun x => mErr x != 0) 106 #[] eg mb mo ms.length c ms w (bad_any w htab) (Nat.le_refl _) hml hmb (MtsAt.cells hc)
    change Calls Tryz.prog 105 _ _ _ at hcon
    rcases first_bad ms with hall | ⟨k, hk, h1, h2⟩
    · rw [Lib.idxBy_miss (fun _ y => mErr y != 0) ms ms.length default (fun j hj => by rw [getElem!_pos ms j hj]; simp [hall _ (List.getElem_mem hj)])] at hcon
      rw [allE_none hall]
      have HC := Lib.hid hcon
      clear hcon hc eg hall hm
      go_enter Tryz.func74, Tryz.ntmps74
      go_wp2_with (go_at_call 105; refine HC.out.mono ?_; rintro e w1 ⟨rfl, q1⟩)
      go_ret
      exact ⟨rfl, q1⟩
    · rw [Lib.idxBy_hit (fun _ y => mErr y != 0) ms ms.length k default hk (Nat.le_refl _) (by rw [getElem!_pos ms k hk]; simpa using h2) (fun j hj => by rw [getElem!_pos ms j (by omega)]; simp [h1 j hj (by omega)])] at hcon
      rw [allE_hit hk h1 h2]
      obtain ⟨E, hE⟩ : ∃ E, E = mErr ms[k] := ⟨_, rfl⟩
      rw [← hE]
      have HC := Lib.hid hcon
      have hkl : (k : Int) < (ms.length : Int) := by omega
      have hk0 : ¬ (k : Int) < 0 := by omega
      obtain ⟨d0, d1, d2⟩ := hc k hk
      have HK : Hid (∀ u, TabW u → Calls Tryz.prog 107 #[.agg #[.string ms[k].1, .int .u8 (ms[k].2.1 : Int), .string ms[k].2.2]] u fun e w' => e = .returned (.int .i64 E) ∧ Below u.heap.size u w') := Lib.hid (fun u hu => by rw [hE]; exact mCheck_any ms[k].1 ms[k].2.1 ms[k].2.2 u hu)
      have HD := Lib.hid (And.intro d0 (And.intro d1 d2))
      clear hcon hc eg h1 h2 hm d0 d1 d2 hE
      go_enter Tryz.func74, Tryz.ntmps74
      go_wp2_with (go_at_call 105; refine HC.out.mono ?_; rintro e w1 ⟨rfl, q1⟩; refine Hid.out ?_)
      refine Lib.hid ?_
      obtain ⟨d0, d1, d2⟩ := HD.out
      rw [← q1.cell (p := ⟨mb, mo + k * 3, none⟩) hmb] at d0
      rw [← q1.cell (p := ⟨mb, mo + k * 3 + 1, none⟩) hmb] at d1
      rw [← q1.cell (p := ⟨mb, mo + k * 3 + 2, none⟩) hmb] at d2
      have HK1 := Lib.hid (HK.out w1 (htab.on q1 htl))
      generalize ms[k].1 = n at *
      generalize ms[k].2.1 = o at *
      generalize ms[k].2.2 = v at *
      clear HK HD HC
      go_wp2_with (go_at_call 107; refine HK1.out.mono ?_; rintro e w2 ⟨rfl, q2⟩)
      go_ret
      exact ⟨rfl, q1.trans (q2.mono q1.size)⟩

end Go.Proofs.YtmanjegdgjeeiaaGreatDoor
namespace Go.Proofs.YtmanjegdgjeeiaaGreatDoor
open Go.RowKit

/-- The first error of a list. -/
def firstE {α : Type} (f : α → Int) : List α → Int
  | [] => 0
  | x :: r => if f x ≠ 0 then f x else firstE f r
theorem firstE_none {α : Type} {f : α → Int} : ∀ {l : List α}, (∀ i (hi : i < l.length), f l[i] = 0) → firstE f l = 0
  | [], _ => rfl
  | x :: r, h => by
    unfold firstE
    have h0 : f x = 0 := h 0 (by simp)
    rw [if_neg (by simpa using h0)]
    exact firstE_none fun i hi => h (i + 1) (by simpa using hi)
theorem firstE_hit {α : Type} {f : α → Int} : ∀ {l : List α} {k : Nat} (hk : k < l.length), (∀ j (_ : j < k) (hj : j < l.length), f l[j] = 0) → f l[k] ≠ 0 → firstE f l = f l[k]
  | x :: r, 0, _, _, h => by
    unfold firstE
    exact if_pos h
  | x :: r, k + 1, hk, hz, h => by
    unfold firstE
    have h0 : f x = 0 := hz 0 (by omega) (by simp)
    rw [if_neg (by simpa using h0)]
    exact firstE_hit (k := k) (by simpa using hk) (fun j hj hl => hz (j + 1) (by omega) (by simpa using hl)) h
theorem firstE_zero {α : Type} {f : α → Int} : ∀ {l : List α}, firstE f l = 0 → ∀ x ∈ l, f x = 0
  | y :: r, h, x, hx => by
    unfold firstE at h
    split at h
    · rename_i h1; exact absurd h h1
    · rename_i h1
      rcases List.mem_cons.1 hx with rfl | hx
      · exact Classical.not_not.1 h1
      · exact firstE_zero h x hx

/-- A text of a list that is no name, or there twice. -/
def nameBad (l : List ByteArray) (i : Nat) : Prop := ∃ h : i < l.length, ¬ NameOk l[i] ∨ l[i] ∈ l.take i
def badB (l : List ByteArray) (i : Nat) : Bool := match l[i]? with | some s => !decide (NameOk s) || ((l.take i).map fun x => x.data.toList).contains s.data.toList | none => false
theorem badB_iff (l : List ByteArray) (i : Nat) : badB l i = true ↔ nameBad l i := by
  unfold badB nameBad
  by_cases h : i < l.length
  · rw [List.getElem?_eq_getElem h]
    simp only [Bool.or_eq_true, Bool.not_eq_true', decide_eq_false_iff_not, List.contains_iff_mem, List.mem_map]
    constructor
    · rintro (h1 | ⟨x, h1, h2⟩)
      · exact ⟨h, Or.inl h1⟩
      · refine ⟨h, Or.inr ?_⟩
        obtain ⟨⟨u⟩⟩ := x
        have e : (⟨⟨u⟩⟩ : ByteArray) = l[i] := by
          generalize l[i] = q at *
          obtain ⟨⟨v⟩⟩ := q
          obtain rfl : u = v := h2
          rfl
        rw [← e]
        exact h1
    · rintro ⟨_, h1 | h1⟩
      · exact Or.inl h1
      · exact Or.inr ⟨_, h1, rfl⟩
  · rw [List.getElem?_eq_none (by omega)]
    simp [h]
def namesE (l : List ByteArray) : Int := if 8 < l.length then 5 else if (List.range l.length).any (badB l) then 6 else 0
theorem namesE_long {l : List ByteArray} (h : 8 < l.length) : namesE l = 5 := if_pos h
theorem namesE_bad {l : List ByteArray} (h : ¬ 8 < l.length) {i : Nat} (hb : nameBad l i) : namesE l = 6 := by
  unfold namesE
  rw [if_neg h, if_pos]
  exact List.any_eq_true.2 ⟨i, List.mem_range.2 hb.1, (badB_iff l i).2 hb⟩
theorem namesE_ok {l : List ByteArray} (h : ¬ 8 < l.length) (hb : ∀ i, ¬ nameBad l i) : namesE l = 0 := by
  unfold namesE
  rw [if_neg h, if_neg]
  intro k
  obtain ⟨i, -, h2⟩ := List.any_eq_true.1 k
  exact hb i ((badB_iff l i).1 h2)

/-- A span that may be. -/
abbrev SpanOk (z : Int) : Prop := 1 ≤ z ∧ z ≤ 1099511627776
abbrev TimesOk (r : Rt) : Prop := (r.wt = 0 ∨ SpanOk r.wt) ∧ SpanOk r.iv ∧ SpanOk r.rp
def routeE (r : Rt) : Int := if checkAllE r.ms ≠ 0 then checkAllE r.ms else if namesE r.bys ≠ 0 then namesE r.bys else if ¬ NameOk r.rc then 6 else if ¬ TimesOk r then 13 else 0
def ruleE (r : Rl) : Int := if checkAllE r.src ≠ 0 then checkAllE r.src else if checkAllE r.tgt ≠ 0 then checkAllE r.tgt else namesE r.eqs
/-- Routes that are one tree. -/
def TreeOk (l : List Rt) : Prop := (∃ h : 0 < l.length, l[0].par = -1 ∧ l[0].ms.length = 0) ∧ ∀ i (h : i < l.length), 1 ≤ i → 0 ≤ l[i].par ∧ l[i].par < (i : Int)
def treeB (l : List Rt) : Bool := match l with
  | [] => false
  | r :: _ => decide (r.par = -1) && decide (r.ms.length = 0) && (List.range l.length).all fun i => match l[i]? with | some q => decide (1 ≤ i → 0 ≤ q.par ∧ q.par < (i : Int)) | none => true
theorem treeB_iff (l : List Rt) : treeB l = true ↔ TreeOk l := by
  cases l with
  | nil =>
    constructor
    · intro h; cases h
    · rintro ⟨⟨h, _⟩, _⟩; exact absurd h (by simp)
  | cons r q =>
    unfold treeB TreeOk
    simp only [Bool.and_eq_true, decide_eq_true_eq, List.all_eq_true, List.mem_range]
    constructor
    · rintro ⟨⟨h1, h2⟩, h3⟩
      refine ⟨⟨by simp, h1, h2⟩, fun i hi h => ?_⟩
      have := h3 i hi
      rw [List.getElem?_eq_getElem hi] at this
      exact (of_decide_eq_true this) h
    · rintro ⟨⟨_, h1, h2⟩, h3⟩
      refine ⟨⟨h1, h2⟩, fun i hi => ?_⟩
      rw [List.getElem?_eq_getElem hi]
      exact decide_eq_true fun h => h3 i hi h
def confE (l : List Rt) (ls : List Rl) (pt rs : Int) : Int :=
  if 16 < l.length ∨ 8 < ls.length then 5 else if treeB l = true then (if firstE routeE l ≠ 0 then firstE routeE l else if firstE ruleE ls ≠ 0 then firstE ruleE ls else if ¬ (SpanOk pt ∧ SpanOk rs) then 13 else 0) else 10

set_option maxHeartbeats 1000000 in
theorem tisSpan_any (z : Int) (w : World) : Calls Tryz.prog 38 #[.int .i64 z] w fun e w' => e = .returned (.bool (decide (SpanOk z))) ∧ w' = w := by
  obtain ⟨B, HB⟩ : ∃ B, Hid (decide (SpanOk z) = B) := ⟨_, Lib.hid rfl⟩
  rw [HB.out]
  by_cases h1 : 1 ≤ z
  · by_cases h2 : z ≤ 1099511627776
    · obtain rfl : B = true := HB.out.symm.trans (decide_eq_true ⟨h1, h2⟩)
      go_enter Tryz.func38, Tryz.ntmps38
      go_wp2
      go_ret
      exact ⟨rfl, rfl⟩
    · obtain rfl : B = false := HB.out.symm.trans (decide_eq_false fun h => h2 h.2)
      go_enter Tryz.func38, Tryz.ntmps38
      go_wp2
      go_ret
      exact ⟨rfl, rfl⟩
  · obtain rfl : B = false := HB.out.symm.trans (decide_eq_false fun h => h1 h.1)
    go_enter Tryz.func38, Tryz.ntmps38
    go_wp2
    go_ret
    exact ⟨rfl, rfl⟩

/-- Texts at an address, of which the first ones lie there, too. -/
theorem StrsAt.take {w : World} {a : Option Addr} {l : List ByteArray} (h : StrsAt w a l) (k : Nat) (hk : k ≤ l.length) : StrsAt w a (l.take k) := fun hn => by
  obtain ⟨b, o, rfl, hb, hc⟩ := h (by rw [List.length_take] at hn; omega)
  refine ⟨b, o, rfl, hb, fun i hi => ?_⟩
  rw [List.length_take] at hi
  rw [List.getElem_take]
  exact hc i (by omega)

theorem str_eq {a b : ByteArray} : (a.toList == b.toList) = true ↔ a = b := by
  rw [beq_iff_eq]
  constructor
  · intro h
    have h2 : a.data.toList = b.data.toList := by simpa [ByteArray.toList_eq] using h
    obtain ⟨⟨x⟩⟩ := a
    obtain ⟨⟨y⟩⟩ := b
    obtain rfl : x = y := h2
    rfl
  · intro h; rw [h]

set_option maxHeartbeats 1000000 in
theorem idxS_any (a : Option Addr) (c : Nat) (l : List ByteArray) (s : ByteArray) (w : World) (h : StrsAt w a l) (hn : l.length ≤ 9223372036854775807) (n : Nat) (hnl : n = l.length) :
    Calls Tryz.prog 81 #[.slice a n c, .string s] w fun e w' => (∃ z : Int, e = .returned (.int .i64 z) ∧ (0 ≤ z ↔ s ∈ l) ∧ -1 ≤ z) ∧ w' = w := by
  subst hnl
  go_enter Tryz.func81, Tryz.ntmps81
  go_wp2
  go_loop [8] (fun i => ∃ k : Nat, k ≤ l.length ∧ i = .int .i64 k ∧ Hid (∀ j (_ : j < k) (hj : j < l.length), l[j] ≠ s)) (fun i => l.length - (intOf i).toNat)
  case atStart => exact ⟨0, Nat.zero_le _, rfl, Lib.hid fun j hj => absurd hj (Nat.not_lt_zero _)⟩
  case round =>
    obtain ⟨k, hk, rfl, HA⟩ := hrel
    by_cases hlt : k < l.length
    · have hkl : (k : Int) < (l.length : Int) := by omega
      obtain ⟨b, o, rfl, hb, hc⟩ := h (by omega)
      have hck := hc k hlt
      clear hc h
      by_cases hE : l[k] = s
      · have hE' : (s.toList == l[k].toList) = true := by rw [hE]; exact beq_self_eq_true _
        have HM : Hid (s ∈ l) := Lib.hid (by rw [← hE]; exact List.getElem_mem hlt)
        clear hE HA
        generalize l[k] = q at *
        go_wp2
        go_ret
        exact ⟨⟨(k : Int), rfl, ⟨fun _ => HM.out, fun _ => by omega⟩, by omega⟩, rfl⟩
      · have hE' : (s.toList == l[k].toList) = false := by rw [Bool.eq_false_iff]; intro h; exact hE (str_eq.1 h).symm
        have HA2 : Hid (∀ j (_ : j < k + 1) (hj : j < l.length), l[j] ≠ s) := Lib.hid fun j hj hl => by
          by_cases e : j = k
          · subst e; exact hE
          · exact HA.out j (by omega) hl
        clear hE HA
        generalize l[k] = q at *
        go_wp2
        go_round
        case rel => exact ⟨k + 1, by omega, by go_num, HA2⟩
        case measure => simp [intOf]; omega
    · obtain rfl : k = l.length := by omega
      have HM : Hid (s ∉ l) := Lib.hid fun hm => by
        obtain ⟨i, hi, e⟩ := List.getElem_of_mem hm
        exact HA.out i hi hi e
      clear HA
      go_wp2
      go_ret
      exact ⟨⟨-1, rfl, ⟨fun h => absurd h (by decide), fun h => absurd h HM.out⟩, by decide⟩, rfl⟩
set_option maxRecDepth 20000 in
set_option maxHeartbeats 1000000 in
theorem hasS_any (a : Option Addr) (c : Nat) (l : List ByteArray) (s : ByteArray) (w : World) (h : StrsAt w a l) (hn : l.length ≤ 9223372036854775807) (n : Nat) (hnl : n = l.length) :
    Calls Tryz.prog 46 #[.slice a n c, .string s] w fun e w' => e = .returned (.bool (@decide (s ∈ l) (Classical.propDecidable _))) ∧ w' = w := by
  subst hnl
  have HI := Lib.hid (idxS_any a c l s w h hn _ rfl)
  obtain ⟨B, HB⟩ : ∃ B, Hid (@decide (s ∈ l) (Classical.propDecidable _) = B) := ⟨_, Lib.hid rfl⟩
  rw [HB.out]
  clear h
  go_enter Tryz.func46, Tryz.ntmps46
  go_wp2_with (go_at_call 81; refine HI.out.mono ?_; rintro e w2 ⟨⟨z, rfl, hz, -⟩, rfl⟩; have HZ := Lib.hid hz; clear hz; refine Hid.out ?_)
  refine Lib.hid ?_
  by_cases h0 : 0 ≤ z
  · obtain rfl : B = true := HB.out.symm.trans (@decide_eq_true _ (Classical.propDecidable _) (HZ.out.1 h0))
    clear HB HZ HI
    go_wp2
    go_ret
    exact ⟨rfl, rfl⟩
  · obtain rfl : B = false := HB.out.symm.trans (@decide_eq_false _ (Classical.propDecidable _) fun h => h0 (HZ.out.2 h))
    clear HB HZ HI
    go_wp2
    go_ret
    exact ⟨rfl, rfl⟩

set_option maxRecDepth 20000 in
set_option maxHeartbeats 2000000 in
theorem tcheckNames_any (a : Option Addr) (c : Nat) (l : List ByteArray) (w : World) (h : StrsAt w a l) (hcap : l.length ≤ c) (hn : l.length ≤ 9223372036854775807) (n : Nat) (hnl : n = l.length) :
    Calls Tryz.prog 75 #[.slice a n c] w fun e w' => e = .returned (.int .i64 (namesE l)) ∧ w' = w := by
  subst hnl
  by_cases h8 : 8 < l.length
  · have h8' : (8 : Int) < (l.length : Int) := by omega
    rw [namesE_long h8]
    go_enter Tryz.func75, Tryz.ntmps75
    go_wp2
    go_ret
    exact ⟨rfl, rfl⟩
  have h8' : ¬ (8 : Int) < (l.length : Int) := by omega
  have HBad := Lib.hid (fun i => namesE_bad (i := i) h8)
  have HOk := Lib.hid (namesE_ok h8)
  generalize namesE l = E at *
  have HN := Lib.hid (fun s u => Name_any s u)
  go_enter Tryz.func75, Tryz.ntmps75
  go_wp2
  go_loop [10] (fun i => ∃ k : Nat, k ≤ l.length ∧ i = .int .i64 k ∧ Hid (∀ j, j < k → ¬ nameBad l j)) (fun i => l.length - (intOf i).toNat)
  case atStart => exact ⟨0, Nat.zero_le _, rfl, Lib.hid fun j hj => absurd hj (Nat.not_lt_zero _)⟩
  case round =>
    obtain ⟨k, hk, rfl, HA⟩ := hrel
    by_cases hlt : k < l.length
    · have hkl : (k : Int) < (l.length : Int) := by omega
      have hkc : (k : Int) ≤ (c : Int) := by omega
      have HC := Lib.hid (hasS_any a c (l.take k) l[k] w (h.take k hk) (by rw [List.length_take]; omega) k (by rw [List.length_take]; omega))
      obtain ⟨b, o, rfl, hb, hc⟩ := h (by omega)
      have hck := hc k hlt
      have HN1 := Lib.hid (fun u => HN.out l[k] u)
      clear hc h
      by_cases hO : NameOk l[k]
      · by_cases hM : l[k] ∈ l.take k
        · have HE := Lib.hid (HBad.out k ⟨hlt, Or.inr hM⟩)
          rw [@decide_eq_true _ (Classical.propDecidable _) hM] at HC
          rw [decide_eq_true hO] at HN1
          clear hO hM HA HBad HOk
          generalize l[k] = q at *
          go_wp2_with (first | (go_at_call 76; refine (HN1.out _).mono ?_; rintro e w1 ⟨rfl, rfl⟩) | (go_at_call 46; refine HC.out.mono ?_; rintro e w1 ⟨rfl, rfl⟩))
          go_ret
          exact ⟨by rw [HE.out]; rfl, rfl⟩
        · have HA2 : Hid (∀ j, j < k + 1 → ¬ nameBad l j) := Lib.hid (upto_succ HA.out fun ⟨_, hx⟩ => hx.elim (fun y => y hO) hM)
          rw [@decide_eq_false _ (Classical.propDecidable _) hM] at HC
          rw [decide_eq_true hO] at HN1
          clear hO hM HA HBad HOk
          generalize l[k] = q at *
          go_wp2_with (first | (go_at_call 76; refine (HN1.out _).mono ?_; rintro e w1 ⟨rfl, rfl⟩) | (go_at_call 46; refine HC.out.mono ?_; rintro e w1 ⟨rfl, rfl⟩))
          go_round
          case rel => exact ⟨k + 1, by omega, by go_num, HA2⟩
          case measure => simp [intOf]; omega
      · have HE := Lib.hid (HBad.out k ⟨hlt, Or.inl hO⟩)
        rw [decide_eq_false hO] at HN1
        clear hO HA HBad HOk HC
        generalize l[k] = q at *
        go_wp2_with (go_at_call 76; refine (HN1.out _).mono ?_; rintro e w1 ⟨rfl, rfl⟩)
        go_ret
        exact ⟨by rw [HE.out]; rfl, rfl⟩
    · obtain rfl : k = l.length := by omega
      have HE := Lib.hid (HOk.out fun i hi => HA.out i hi.1 hi)
      clear HA HBad HOk
      go_wp2
      go_ret
      exact ⟨by rw [HE.out]; rfl, rfl⟩


set_option maxRecDepth 20000 in
set_option maxHeartbeats 4000000 in
theorem tcheckRoute_any (r : Rt) (w : World) (htab : TabW w) (hm : MtsAt w r.ma r.ms) (hb : StrsAt w r.ba r.bys) (hok : RtOk r) :
    Calls Tryz.prog 36 #[.agg #[.int .i64 r.par, .slice r.ma r.ms.length r.mc, .bool r.co, .slice r.ba r.bys.length r.bc, .string r.rc, .int .i64 r.wt, .int .i64 r.iv, .int .i64 r.rp]] w fun e w' => e = .returned (.int .i64 (routeE r)) ∧ Below w.heap.size w w' := by
  obtain ⟨E, HE⟩ : ∃ E, Hid (routeE r = E) := ⟨_, Lib.hid rfl⟩
  rw [HE.out]
  unfold routeE at HE
  obtain ⟨par, ma, mc, ms, co, ba, bc, bys, rc, wt, iv, rp⟩ := r
  obtain ⟨⟨k1, -⟩, ⟨⟨k2, -⟩, k3⟩, k4⟩ := hok
  simp only at hm hb k1 k2 k3 k4 HE ⊢
  have k : maxLen = 9223372036854775807 := rfl
  have hA := (Below.refl w.heap.size w).alloc (Nat.le_refl _) (.cells #[.int .i64 par, .slice ma ms.length mc, .bool co, .slice ba bys.length bc, .string rc, .int .i64 wt, .int .i64 iv, .int .i64 rp] 51)
  have HC := Lib.hid (mCheckAll_any ma mc ms _ (htab.on hA htab.lt) (hm.below hA (Nat.le_refl _)) (by omega))
  have HN := Lib.hid (fun u (hu : Below w.heap.size w u) => tcheckNames_any ba bc bys u (hb.below hu (Nat.le_refl _)) k3 (by omega) _ rfl)
  have HM := Lib.hid (fun u => Name_any rc u)
  obtain ⟨sp, hsp⟩ : ∃ sp : Int → Bool, ∀ z, sp z = decide (SpanOk z) := ⟨_, fun _ => rfl⟩
  have HS := Lib.hid (fun z u => tisSpan_any z u)
  simp only [← hsp] at HS
  have HSP := Lib.hid hsp
  clear hsp
  have HB := Lib.hid hA
  have hblk := heap_new w (.cells #[.int .i64 par, .slice ma ms.length mc, .bool co, .slice ba bys.length bc, .string rc, .int .i64 wt, .int .i64 iv, .int .i64 rp] 51)
  have HBlk := Lib.hid hblk
  generalize checkAllE ms = E1 at *
  generalize namesE bys = E2 at *
  clear hm hb htab hA hblk k1 k2 k3 k4 k
  go_enter Tryz.func36, Tryz.ntmps36
  go_wp2_with (go_at_call 74; refine HC.out.mono ?_; rintro e w1 ⟨rfl, q1⟩; refine Hid.out ?_)
  refine Lib.hid ?_
  have HB1 := Lib.hid (HB.out.trans (q1.mono HB.out.size))
  have hb1 := (q1.block w.heap.size (by simp)).trans HBlk.out
  have c3 : w1.cell? ⟨w.heap.size, 3, none⟩ = some (.slice ba bys.length bc) := cell_heap hb1
  have c4 : w1.cell? ⟨w.heap.size, 4, none⟩ = some (.string rc) := cell_heap hb1
  have c5 : w1.cell? ⟨w.heap.size, 5, none⟩ = some (.int .i64 wt) := cell_heap hb1
  have c6 : w1.cell? ⟨w.heap.size, 6, none⟩ = some (.int .i64 iv) := cell_heap hb1
  have c7 : w1.cell? ⟨w.heap.size, 7, none⟩ = some (.int .i64 rp) := cell_heap hb1
  have HN1 := Lib.hid (HN.out w1 HB1.out)
  clear HC HB HBlk q1 hb1 HN
  by_cases h1 : E1 = 0
  · subst h1
    rw [if_neg (by simp)] at HE
    by_cases h2 : E2 = 0
    · subst h2
      rw [if_neg (by simp)] at HE
      by_cases h3 : NameOk rc
      · rw [if_neg (Classical.not_not.2 h3)] at HE
        rw [decide_eq_true h3] at HM
        clear h3
        by_cases h4 : wt = 0
        · subst h4
          cases h5 : sp iv with
          | false =>
            have HE2 : Hid (E = 13) := Lib.hid (by rw [← HE.out, if_pos]; intro h; rw [HSP.out, decide_eq_true h.2.1] at h5; cases h5)
            clear HE
            go_wp2_with (first | (go_at_call 75; refine HN1.out.mono ?_; rintro e w2 ⟨rfl, rfl⟩) | (go_at_call 76; refine (HM.out _).mono ?_; rintro e w2 ⟨rfl, rfl⟩) | (go_at_call 38; refine (HS.out _ _).mono ?_; rintro e w2 ⟨rfl, rfl⟩))
            go_ret
            exact ⟨by rw [HE2.out]; rfl, HB1.out⟩
          | true =>
            cases h6 : sp rp with
            | false =>
              have HE2 : Hid (E = 13) := Lib.hid (by rw [← HE.out, if_pos]; intro h; rw [HSP.out, decide_eq_true h.2.2] at h6; cases h6)
              clear HE
              go_wp2_with (first | (go_at_call 75; refine HN1.out.mono ?_; rintro e w2 ⟨rfl, rfl⟩) | (go_at_call 76; refine (HM.out _).mono ?_; rintro e w2 ⟨rfl, rfl⟩) | (go_at_call 38; refine (HS.out _ _).mono ?_; rintro e w2 ⟨rfl, rfl⟩))
              go_ret
              exact ⟨by rw [HE2.out]; rfl, HB1.out⟩
            | true =>
              have HE2 : Hid (E = 0) := Lib.hid (by rw [← HE.out, if_neg]; exact Classical.not_not.2 ⟨Or.inl rfl, of_decide_eq_true ((HSP.out _).symm.trans h5), of_decide_eq_true ((HSP.out _).symm.trans h6)⟩)
              clear HE
              go_wp2_with (first | (go_at_call 75; refine HN1.out.mono ?_; rintro e w2 ⟨rfl, rfl⟩) | (go_at_call 76; refine (HM.out _).mono ?_; rintro e w2 ⟨rfl, rfl⟩) | (go_at_call 38; refine (HS.out _ _).mono ?_; rintro e w2 ⟨rfl, rfl⟩))
              go_ret
              exact ⟨by rw [HE2.out]; rfl, HB1.out⟩
        · have h4' : (wt == 0) = false := by simpa using h4
          cases h7 : sp wt with
          | false =>
            have HE2 : Hid (E = 13) := Lib.hid (by rw [← HE.out, if_pos]; intro h; rcases h.1 with h | h; exact h4 h; rw [HSP.out, decide_eq_true h] at h7; cases h7)
            clear HE
            go_wp2_with (first | (go_at_call 75; refine HN1.out.mono ?_; rintro e w2 ⟨rfl, rfl⟩) | (go_at_call 76; refine (HM.out _).mono ?_; rintro e w2 ⟨rfl, rfl⟩) | (go_at_call 38; refine (HS.out _ _).mono ?_; rintro e w2 ⟨rfl, rfl⟩))
            go_ret
            exact ⟨by rw [HE2.out]; rfl, HB1.out⟩
          | true =>
            cases h5 : sp iv with
            | false =>
              have HE2 : Hid (E = 13) := Lib.hid (by rw [← HE.out, if_pos]; intro h; rw [HSP.out, decide_eq_true h.2.1] at h5; cases h5)
              clear HE
              go_wp2_with (first | (go_at_call 75; refine HN1.out.mono ?_; rintro e w2 ⟨rfl, rfl⟩) | (go_at_call 76; refine (HM.out _).mono ?_; rintro e w2 ⟨rfl, rfl⟩) | (go_at_call 38; refine (HS.out _ _).mono ?_; rintro e w2 ⟨rfl, rfl⟩))
              go_ret
              exact ⟨by rw [HE2.out]; rfl, HB1.out⟩
            | true =>
              cases h6 : sp rp with
              | false =>
                have HE2 : Hid (E = 13) := Lib.hid (by rw [← HE.out, if_pos]; intro h; rw [HSP.out, decide_eq_true h.2.2] at h6; cases h6)
                clear HE
                go_wp2_with (first | (go_at_call 75; refine HN1.out.mono ?_; rintro e w2 ⟨rfl, rfl⟩) | (go_at_call 76; refine (HM.out _).mono ?_; rintro e w2 ⟨rfl, rfl⟩) | (go_at_call 38; refine (HS.out _ _).mono ?_; rintro e w2 ⟨rfl, rfl⟩))
                go_ret
                exact ⟨by rw [HE2.out]; rfl, HB1.out⟩
              | true =>
                have HE2 : Hid (E = 0) := Lib.hid (by rw [← HE.out, if_neg]; exact Classical.not_not.2 ⟨Or.inr (of_decide_eq_true ((HSP.out _).symm.trans h7)), of_decide_eq_true ((HSP.out _).symm.trans h5), of_decide_eq_true ((HSP.out _).symm.trans h6)⟩)
                clear HE
                go_wp2_with (first | (go_at_call 75; refine HN1.out.mono ?_; rintro e w2 ⟨rfl, rfl⟩) | (go_at_call 76; refine (HM.out _).mono ?_; rintro e w2 ⟨rfl, rfl⟩) | (go_at_call 38; refine (HS.out _ _).mono ?_; rintro e w2 ⟨rfl, rfl⟩))
                go_ret
                exact ⟨by rw [HE2.out]; rfl, HB1.out⟩
      · rw [if_pos h3] at HE
        rw [decide_eq_false h3] at HM
        clear h3
        go_wp2_with (first | (go_at_call 75; refine HN1.out.mono ?_; rintro e w2 ⟨rfl, rfl⟩) | (go_at_call 76; refine (HM.out _).mono ?_; rintro e w2 ⟨rfl, rfl⟩))
        go_ret
        exact ⟨by rw [← HE.out]; rfl, HB1.out⟩
    · rw [if_pos h2] at HE
      have h2' : (E2 == 0) = false := by simpa using h2
      clear h2
      go_wp2_with (go_at_call 75; refine HN1.out.mono ?_; rintro e w2 ⟨rfl, rfl⟩)
      go_ret
      exact ⟨by rw [← HE.out]; rfl, HB1.out⟩
  · rw [if_pos h1] at HE
    have h1' : (E1 == 0) = false := by simpa using h1
    clear h1
    go_wp2
    go_ret
    exact ⟨by rw [← HE.out]; rfl, HB1.out⟩


set_option maxRecDepth 20000 in
set_option maxHeartbeats 2000000 in
theorem tcheckRule_any (r : Rl) (w : World) (htab : TabW w) (h1 : MtsAt w r.sa r.src) (h2 : MtsAt w r.ta r.tgt) (h3 : StrsAt w r.ea r.eqs) (hok : RlOk r) :
    Calls Tryz.prog 37 #[.agg #[.slice r.sa r.src.length r.sc, .slice r.ta r.tgt.length r.tc, .slice r.ea r.eqs.length r.ec]] w fun e w' => e = .returned (.int .i64 (ruleE r)) ∧ Below w.heap.size w w' := by
  obtain ⟨E, HE⟩ : ∃ E, Hid (ruleE r = E) := ⟨_, Lib.hid rfl⟩
  rw [HE.out]
  unfold ruleE at HE
  obtain ⟨sa, sc, src, ta, tc, tgt, ea, ec, eqs⟩ := r
  obtain ⟨⟨k1, -⟩, ⟨k2, -⟩, ⟨k3, -⟩, k4⟩ := hok
  simp only at h1 h2 h3 k1 k2 k3 k4 HE ⊢
  have k : maxLen = 9223372036854775807 := rfl
  have htl := htab.lt
  have hA := (Below.refl w.heap.size w).alloc (Nat.le_refl _) (.cells #[.slice sa src.length sc, .slice ta tgt.length tc, .slice ea eqs.length ec] 55)
  have HC1 := Lib.hid (mCheckAll_any sa sc src _ (htab.on hA htab.lt) (h1.below hA (Nat.le_refl _)) (by omega))
  have HC2 := Lib.hid (fun u (hu : Below w.heap.size w u) => mCheckAll_any ta tc tgt u (htab.on hu htl) (h2.below hu (Nat.le_refl _)) (by omega))
  have HN := Lib.hid (fun u (hu : Below w.heap.size w u) => tcheckNames_any ea ec eqs u (h3.below hu (Nat.le_refl _)) k4 (by omega) _ rfl)
  have HB := Lib.hid hA
  have HBlk := Lib.hid (heap_new w (.cells #[.slice sa src.length sc, .slice ta tgt.length tc, .slice ea eqs.length ec] 55))
  generalize checkAllE src = E1 at *
  generalize checkAllE tgt = E2 at *
  generalize namesE eqs = E3 at *
  clear h1 h2 h3 htab hA k1 k2 k3 k4 k
  go_enter Tryz.func37, Tryz.ntmps37
  go_wp2_with (go_at_call 74; refine HC1.out.mono ?_; rintro e w1 ⟨rfl, q1⟩; refine Hid.out ?_)
  refine Lib.hid ?_
  have HB1 := Lib.hid (HB.out.trans (q1.mono HB.out.size))
  have hb1 := (q1.block w.heap.size (by simp)).trans HBlk.out
  have c1 : w1.cell? ⟨w.heap.size, 1, none⟩ = some (.slice ta tgt.length tc) := cell_heap hb1
  have HBl1 := Lib.hid hb1
  have HC3 := Lib.hid (HC2.out w1 HB1.out)
  clear HC1 HB HBlk q1 hb1 HC2
  by_cases g1 : E1 = 0
  · subst g1
    rw [if_neg (by simp)] at HE
    go_wp2_with (go_at_call 74; refine HC3.out.mono ?_; rintro e w2 ⟨rfl, q2⟩; refine Hid.out ?_)
    refine Lib.hid ?_
    have HB2 := Lib.hid (HB1.out.trans (q2.mono HB1.out.size))
    have hb2 := (q2.block w.heap.size (lt_of_block HBl1.out)).trans HBl1.out
    have c2 : w2.cell? ⟨w.heap.size, 2, none⟩ = some (.slice ea eqs.length ec) := cell_heap hb2
    have HN2 := Lib.hid (HN.out w2 HB2.out)
    clear HC3 HBl1 q2 hb2 HN c1 HB1
    by_cases g2 : E2 = 0
    · subst g2
      rw [if_neg (by simp)] at HE
      go_wp2_with (go_at_call 75; refine HN2.out.mono ?_; rintro e w3 ⟨rfl, rfl⟩)
      go_ret
      exact ⟨by rw [← HE.out]; rfl, HB2.out⟩
    · rw [if_pos g2] at HE
      have g2' : (E2 == 0) = false := by simpa using g2
      clear g2
      go_wp2
      go_ret
      exact ⟨by rw [← HE.out]; rfl, HB2.out⟩
  · rw [if_pos g1] at HE
    have g1' : (E1 == 0) = false := by simpa using g1
    clear g1
    go_wp2
    go_ret
    exact ⟨by rw [← HE.out]; rfl, HB1.out⟩

/-- A route's cells where it lies. -/
theorem RtsAt.at {w : World} {b o : Nat} {l : List Rt} {i : Nat} (hi : i < l.length) (h : CellsAt w b (o + i * 8) (encR l[i])) : w.cell? ⟨b, o + i * 8, none⟩ = some (.int .i64 l[i].par) ∧ w.cell? ⟨b, o + i * 8 + 1, none⟩ = some (.slice l[i].ma l[i].ms.length l[i].mc) := ⟨h 0 _ rfl, h 1 _ rfl⟩

set_option maxRecDepth 20000 in
set_option maxHeartbeats 2000000 in
theorem tisTree_any (a : Option Addr) (c : Nat) (l : List Rt) (w : World) (h : RtsAt w a l) (hn : l.length ≤ 9223372036854775807) :
    Calls Tryz.prog 35 #[.slice a l.length c] w fun e w' => Tells (TreeOk l) e ∧ w' = w := by
  by_cases h0 : l.length = 0
  · have HF : Hid (¬ TreeOk l) := Lib.hid fun ⟨⟨k, _⟩, _⟩ => by omega
    have h0' : ((l.length : Int) == 0) = true := by simp [h0]
    clear h0 h
    go_enter Tryz.func35, Tryz.ntmps35
    go_wp2
    go_ret
    exact ⟨⟨false, rfl, by simp [HF.out]⟩, rfl⟩
  have h0' : ((l.length : Int) == 0) = false := by simp [h0]
  have h0p : (0 : Int) < (l.length : Int) := by omega
  obtain ⟨b, o, rfl, hb, hc⟩ := h (by omega)
  have HC := Lib.hid (fun i (hi : i < l.length) => RtsAt.at hi (hc i hi).1)
  obtain ⟨d0, d1⟩ := HC.out 0 (by omega)
  rw [Nat.zero_mul, Nat.add_zero] at d0 d1
  have hpos : 0 < l.length := by omega
  have HT1 : Hid (TreeOk l → l[0].par = -1 ∧ l[0].ms.length = 0) := Lib.hid fun ⟨⟨_, k⟩, _⟩ => k
  have HT2 : Hid (TreeOk l → ∀ i (h : i < l.length), 1 ≤ i → 0 ≤ l[i].par ∧ l[i].par < (i : Int)) := Lib.hid fun k => k.2
  have HT3 : Hid ((l[0].par = -1 ∧ l[0].ms.length = 0) → (∀ i (h : i < l.length), 1 ≤ i → 0 ≤ l[i].par ∧ l[i].par < (i : Int)) → TreeOk l) := Lib.hid fun k1 k2 => ⟨⟨hpos, k1⟩, k2⟩
  clear hc h
  generalize hp0 : l[0].par = p0 at *
  generalize hm0 : l[0].ms.length = m0 at *
  generalize l[0].ma = x0 at *
  generalize l[0].mc = x1 at *
  clear hp0 hm0
  by_cases h1 : p0 = -1
  · subst h1
    by_cases h2 : m0 = 0
    · subst h2
      go_enter Tryz.func35, Tryz.ntmps35
      go_wp2
      clear d0 d1
      go_loop [3] (fun i => ∃ k : Nat, 1 ≤ k ∧ k ≤ l.length ∧ i = .int .i64 k ∧ Hid (∀ j (hj : j < l.length), 1 ≤ j → j < k → 0 ≤ l[j].par ∧ l[j].par < (j : Int))) (fun i => l.length - (intOf i).toNat)
      case atStart => exact ⟨1, by omega, by omega, rfl, Lib.hid fun j _ h1 h2 => by omega⟩
      case round =>
        obtain ⟨k, hk1, hk, rfl, HA⟩ := hrel
        by_cases hlt : k < l.length
        · have hkl : (k : Int) < (l.length : Int) := by omega
          obtain ⟨d0, -⟩ := HC.out k hlt
          by_cases g1 : l[k].par < 0
          · have HF : Hid (¬ TreeOk l) := Lib.hid fun ht => by have := (HT2.out ht k hlt hk1).1; omega
            clear HA HT1 HT2 HT3 HC
            generalize l[k].par = q at *
            go_wp2
            go_ret
            exact ⟨⟨false, rfl, by simp [HF.out]⟩, rfl⟩
          · by_cases g2 : (k : Int) ≤ l[k].par
            · have HF : Hid (¬ TreeOk l) := Lib.hid fun ht => by have := (HT2.out ht k hlt hk1).2; omega
              clear HA HT1 HT2 HT3 HC
              generalize l[k].par = q at *
              go_wp2
              go_ret
              exact ⟨⟨false, rfl, by simp [HF.out]⟩, rfl⟩
            · have HA2 : Hid (∀ j (hj : j < l.length), 1 ≤ j → j < k + 1 → 0 ≤ l[j].par ∧ l[j].par < (j : Int)) := Lib.hid fun j hj h1 h2 => by
                by_cases e : j = k
                · subst e; exact ⟨by omega, by omega⟩
                · exact HA.out j hj h1 (by omega)
              clear HA
              generalize l[k].par = q at *
              go_wp2
              go_round
              case rel => exact ⟨k + 1, by omega, by omega, by go_num, HA2⟩
              case measure => simp [intOf]; omega
        · obtain rfl : k = l.length := by omega
          have HT : Hid (TreeOk l) := Lib.hid (HT3.out (by simp) fun i hi h1 => HA.out i hi h1 hi)
          clear HA
          go_wp2
          go_ret
          exact ⟨⟨true, rfl, by simp [HT.out]⟩, rfl⟩
    · have HF : Hid (¬ TreeOk l) := Lib.hid fun ht => h2 (HT1.out ht).2
      have h2' : (0 : Int) < (m0 : Int) := by omega
      clear HC HT1 HT2 HT3
      go_enter Tryz.func35, Tryz.ntmps35
      go_wp2
      go_ret
      exact ⟨⟨false, rfl, by simp [HF.out]⟩, rfl⟩
  · have HF : Hid (¬ TreeOk l) := Lib.hid fun ht => h1 (HT1.out ht).1
    clear HC HT1 HT2 HT3
    go_enter Tryz.func35, Tryz.ntmps35
    go_wp2
    go_ret
    exact ⟨⟨false, rfl, by simp [HF.out]⟩, rfl⟩


/-- A configuration's block. -/
def CfBlk (w : World) (B : Nat) (a : Option Addr) (n c : Nat) (b : Option Addr) (m d : Nat) (pt rs : Int) : Prop := w.heap[B]? = some (.cells #[.slice a n c, .slice b m d, .int .i64 pt, .int .i64 rs] 25 (0, 0))
theorem CfBlk.below {w w' : World} {B : Nat} {a : Option Addr} {n c : Nat} {b : Option Addr} {m d : Nat} {pt rs : Int} (h : CfBlk w B a n c b m d pt rs) (hb : Below w.heap.size w w') : CfBlk w' B a n c b m d pt rs := (hb.block B (lt_of_block h)).trans h

set_option maxRecDepth 20000 in
set_option maxHeartbeats 4000000 in
theorem tCheck_any (a : Option Addr) (c : Nat) (l : List Rt) (b : Option Addr) (d : Nat) (ls : List Rl) (pt rs : Int) (w : World) (htab : TabW w) (hl : RtsAt w a l) (hls : RlsAt w b ls) (okl : ∀ r ∈ l, RtOk r) (okls : ∀ r ∈ ls, RlOk r) (hn : l.length ≤ 9223372036854775807) (hm : ls.length ≤ 9223372036854775807) :
    Calls Tryz.prog 12 #[.agg #[.slice a l.length c, .slice b ls.length d, .int .i64 pt, .int .i64 rs]] w fun e w' => e = .returned (.int .i64 (confE l ls pt rs)) ∧ Below w.heap.size w w' := by
  obtain ⟨E, HE⟩ : ∃ E, Hid (confE l ls pt rs = E) := ⟨_, Lib.hid rfl⟩
  rw [HE.out]
  unfold confE at HE
  have htl := htab.lt
  have hA := (Below.refl w.heap.size w).alloc (Nat.le_refl _) (.cells #[.slice a l.length c, .slice b ls.length d, .int .i64 pt, .int .i64 rs] 25)
  have HB := Lib.hid hA
  by_cases h16 : 16 < l.length
  · have h16' : (16 : Int) < (l.length : Int) := by omega
    rw [if_pos (Or.inl h16)] at HE
    clear hl hls okl okls hA
    go_enter Tryz.func12, Tryz.ntmps12
    go_wp2
    go_ret
    exact ⟨by rw [← HE.out]; rfl, HB.out⟩
  have h16' : ¬ (16 : Int) < (l.length : Int) := by omega
  by_cases h8 : 8 < ls.length
  · have h8' : (8 : Int) < (ls.length : Int) := by omega
    rw [if_pos (Or.inr h8)] at HE
    clear hl hls okl okls hA
    go_enter Tryz.func12, Tryz.ntmps12
    go_wp2
    go_ret
    exact ⟨by rw [← HE.out]; rfl, HB.out⟩
  have h8' : ¬ (8 : Int) < (ls.length : Int) := by omega
  rw [if_neg (by omega)] at HE
  have HT := Lib.hid (tisTree_any a c l _ (hl.below hA (Nat.le_refl _)) hn)
  by_cases ht : TreeOk l
  · have HT2 : Hid (Calls Tryz.prog 35 #[.slice a l.length c] (w.alloc (.cells #[.slice a l.length c, .slice b ls.length d, .int .i64 pt, .int .i64 rs] 25)) fun e w' => e = .returned (.bool true) ∧ w' = w.alloc (.cells #[.slice a l.length c, .slice b ls.length d, .int .i64 pt, .int .i64 rs] 25)) := Lib.hid (HT.out.mono fun e w' ⟨⟨x, h1, h2⟩, h3⟩ => ⟨by rw [h1, h2.2 ht], h3⟩)
    have HE1 : Hid ((if firstE routeE l ≠ 0 then firstE routeE l else if firstE ruleE ls ≠ 0 then firstE ruleE ls else if ¬ (SpanOk pt ∧ SpanOk rs) then 13 else 0) = E) := Lib.hid ((if_pos ((treeB_iff l).2 ht)).symm.trans HE.out)
    have HRt := Lib.hid (fun k (hk : k < l.length) u (hu : Below w.heap.size w u) => tcheckRoute_any l[k] u (htab.on hu htl))
    have HRl := Lib.hid (fun k (hk : k < ls.length) u (hu : Below w.heap.size w u) => tcheckRule_any ls[k] u (htab.on hu htl))
    have HL := Lib.hid hl
    have HLs := Lib.hid hls
    have HBk : Hid (CfBlk (w.alloc (.cells #[.slice a l.length c, .slice b ls.length d, .int .i64 pt, .int .i64 rs] 25)) w.heap.size a l.length c b ls.length d pt rs) := Lib.hid (heap_new w _)
    have HO := Lib.hid okl
    have HOs := Lib.hid okls
    clear hl hls okl okls hA ht HE HT htab
    go_enter Tryz.func12, Tryz.ntmps12
    go_wp2_with (go_at_call 35; refine HT2.out.mono ?_; rintro e w1 ⟨rfl, rfl⟩)
    go_loopw [26] (fun i wr => ∃ k : Nat, k ≤ l.length ∧ i = .int .i64 k ∧ Hid (Below w.heap.size w wr) ∧ Hid (CfBlk wr w.heap.size a l.length c b ls.length d pt rs) ∧ Hid (∀ j (_ : j < k) (hj : j < l.length), routeE l[j] = 0)) (fun i _ => l.length - (intOf i).toNat)
    case atStart => exact ⟨0, Nat.zero_le _, rfl, HB, HBk, Lib.hid fun j hj => absurd hj (Nat.not_lt_zero _)⟩
    case round =>
      clear HB HBk
      obtain ⟨k, hk, rfl, HB, HBk, HA⟩ := hrel
      by_cases hlt : k < l.length
      · have hkl : (k : Int) < (l.length : Int) := by omega
        obtain ⟨rb, ro, rfl, hrb, hr⟩ := HL.out (by omega)
        obtain ⟨hr1, hr2, hr3⟩ := hr k hlt
        have hcell : ∀ j v, (encR l[k])[j]? = some v → wr.cell? ⟨rb, ro + k * 8 + j, none⟩ = some v := fun j v hv => (HB.out.cell (p := ⟨rb, ro + k * 8 + j, none⟩) hrb).trans (hr1 j v hv)
        have c0 : wr.cell? ⟨rb, ro + k * 8, none⟩ = some (.int .i64 l[k].par) := hcell 0 _ rfl
        have c1 := hcell 1 _ rfl
        have c2 := hcell 2 _ rfl
        have c3 := hcell 3 _ rfl
        have c4 := hcell 4 _ rfl
        have c5 := hcell 5 _ rfl
        have c6 := hcell 6 _ rfl
        have c7 := hcell 7 _ rfl
        have HF := Lib.hid (firstE_hit hlt HA.out)
        have HA2 : Hid (routeE l[k] = 0 → ∀ j (_ : j < k + 1) (hj : j < l.length), routeE l[j] = 0) := Lib.hid fun h0 j hj hl => by
          by_cases e : j = k
          · subst e; exact h0
          · exact HA.out j (by omega) hl
        have bA := HB.out.alloc HB.out.size (.cells #[.int .i64 l[k].par, .slice l[k].ma l[k].ms.length l[k].mc, .bool l[k].co, .slice l[k].ba l[k].bys.length l[k].bc, .string l[k].rc, .int .i64 l[k].wt, .int .i64 l[k].iv, .int .i64 l[k].rp] 51)
        have HBA := Lib.hid bA
        have HBk2 := Lib.hid (HBk.out.below ((Below.refl wr.heap.size wr).alloc (Nat.le_refl _) (.cells #[.int .i64 l[k].par, .slice l[k].ma l[k].ms.length l[k].mc, .bool l[k].co, .slice l[k].ba l[k].bys.length l[k].bc, .string l[k].rc, .int .i64 l[k].wt, .int .i64 l[k].iv, .int .i64 l[k].rp] 51)))
        have HC := Lib.hid (HRt.out k hlt _ bA (hr2.below bA (Nat.le_refl _)) (hr3.below bA (Nat.le_refl _)) (HO.out _ (List.getElem_mem hlt)))
        clear hr hr1 hr2 hr3 hcell bA HA
        generalize routeE l[k] = Ek at *
        generalize l[k].par = x0 at *
        generalize l[k].ma = x1 at *
        generalize l[k].ms.length = x2 at *
        generalize l[k].mc = x3 at *
        generalize l[k].co = x4 at *
        generalize l[k].ba = x5 at *
        generalize l[k].bys.length = x6 at *
        generalize l[k].bc = x7 at *
        generalize l[k].rc = x8 at *
        generalize l[k].wt = x9 at *
        generalize l[k].iv = x10 at *
        generalize l[k].rp = x11 at *
        go_wp2_with (go_at_call 36; refine HC.out.mono ?_; rintro e w2 ⟨rfl, q2⟩; refine Hid.out ?_)
        refine Lib.hid ?_
        have HB2 := Lib.hid (HBA.out.trans (q2.mono HBA.out.size))
        have HBk3 := Lib.hid (HBk2.out.below q2)
        clear q2 c0 c1 c2 c3 c4 c5 c6 c7 HC HBk2 HBA
        by_cases hE : Ek = 0
        · subst hE
          have HA3 := Lib.hid (HA2.out rfl)
          clear HA2 HF
          go_wp2
          go_roundw
          case rel => exact ⟨k + 1, by omega, by go_num, HB2, HBk3, HA3⟩
          case measure => simp [intOf]; omega
        · have HE2 : Hid (E = Ek) := Lib.hid (by rw [← HE1.out, HF.out hE, if_pos hE])
          have hE' : (Ek == 0) = false := by simpa using hE
          clear hE HA2 HF
          go_wp2
          go_ret
          exact ⟨by rw [HE2.out]; rfl, HB2.out⟩
      · obtain rfl : k = l.length := by omega
        have HE2 : Hid ((if firstE ruleE ls ≠ 0 then firstE ruleE ls else if ¬ (SpanOk pt ∧ SpanOk rs) then 13 else 0) = E) := Lib.hid (by
          rw [← HE1.out, firstE_none fun i hi => HA.out i hi hi]
          rfl)
        have c1 : wr.cell? ⟨w.heap.size, 1, none⟩ = some (.slice b ls.length d) := cell_heap HBk.out
        clear HA HE1 HRt HL HO
        go_wp2
        clear c1
        go_loopw [39] (fun i wr => ∃ k : Nat, k ≤ ls.length ∧ i = .int .i64 k ∧ Hid (Below w.heap.size w wr) ∧ Hid (CfBlk wr w.heap.size a l.length c b ls.length d pt rs) ∧ Hid (∀ j (_ : j < k) (hj : j < ls.length), ruleE ls[j] = 0)) (fun i _ => ls.length - (intOf i).toNat)
        case atStart => exact ⟨0, Nat.zero_le _, rfl, HB, HBk, Lib.hid fun j hj => absurd hj (Nat.not_lt_zero _)⟩
        case round =>
          clear HB HBk
          obtain ⟨k, hk2, rfl, HB, HBk, HA⟩ := hrel
          by_cases hlt2 : k < ls.length
          · have hkl : (k : Int) < (ls.length : Int) := by omega
            obtain ⟨rb, ro, rfl, hrb, hr⟩ := HLs.out (by omega)
            obtain ⟨hr1, hr2, hr3, hr4⟩ := hr k hlt2
            have hcell : ∀ j v, (encL ls[k])[j]? = some v → wr.cell? ⟨rb, ro + k * 3 + j, none⟩ = some v := fun j v hv => (HB.out.cell (p := ⟨rb, ro + k * 3 + j, none⟩) hrb).trans (hr1 j v hv)
            have c0 : wr.cell? ⟨rb, ro + k * 3, none⟩ = some (.slice ls[k].sa ls[k].src.length ls[k].sc) := hcell 0 _ rfl
            have c1 := hcell 1 _ rfl
            have c2 := hcell 2 _ rfl
            have HF := Lib.hid (firstE_hit hlt2 HA.out)
            have HA2 : Hid (ruleE ls[k] = 0 → ∀ j (_ : j < k + 1) (hj : j < ls.length), ruleE ls[j] = 0) := Lib.hid fun h0 j hj hl => by
              by_cases e : j = k
              · subst e; exact h0
              · exact HA.out j (by omega) hl
            have bA := HB.out.alloc HB.out.size (.cells #[.slice ls[k].sa ls[k].src.length ls[k].sc, .slice ls[k].ta ls[k].tgt.length ls[k].tc, .slice ls[k].ea ls[k].eqs.length ls[k].ec] 55)
            have HBA := Lib.hid bA
            have HBk2 := Lib.hid (HBk.out.below ((Below.refl wr.heap.size wr).alloc (Nat.le_refl _) (.cells #[.slice ls[k].sa ls[k].src.length ls[k].sc, .slice ls[k].ta ls[k].tgt.length ls[k].tc, .slice ls[k].ea ls[k].eqs.length ls[k].ec] 55)))
            have HC := Lib.hid (HRl.out k hlt2 _ bA (hr2.below bA (Nat.le_refl _)) (hr3.below bA (Nat.le_refl _)) (hr4.below bA (Nat.le_refl _)) (HOs.out _ (List.getElem_mem hlt2)))
            clear hr hr1 hr2 hr3 hr4 hcell bA HA
            generalize ruleE ls[k] = Ek at *
            generalize ls[k].sa = x1 at *
            generalize ls[k].src.length = x2 at *
            generalize ls[k].sc = x3 at *
            generalize ls[k].ta = x4 at *
            generalize ls[k].tgt.length = x5 at *
            generalize ls[k].tc = x6 at *
            generalize ls[k].ea = x7 at *
            generalize ls[k].eqs.length = x8 at *
            generalize ls[k].ec = x9 at *
            go_wp2_with (go_at_call 37; refine HC.out.mono ?_; rintro e w2 ⟨rfl, q2⟩; refine Hid.out ?_)
            refine Lib.hid ?_
            have HB2 := Lib.hid (HBA.out.trans (q2.mono HBA.out.size))
            have HBk3 := Lib.hid (HBk2.out.below q2)
            clear q2 c0 c1 c2 HC HBk2 HBA
            by_cases hE : Ek = 0
            · subst hE
              have HA3 := Lib.hid (HA2.out rfl)
              clear HA2 HF
              go_wp2
              go_roundw
              case rel => exact ⟨k + 1, by omega, by go_num, HB2, HBk3, HA3⟩
              case measure => simp [intOf]; omega
            · have HE3 : Hid (E = Ek) := Lib.hid (by rw [← HE2.out, HF.out hE, if_pos hE])
              have hE' : (Ek == 0) = false := by simpa using hE
              clear hE HA2 HF
              go_wp2
              go_ret
              exact ⟨by rw [HE3.out]; rfl, HB2.out⟩
          · obtain rfl : k = ls.length := by omega
            have HE3 : Hid ((if ¬ (SpanOk pt ∧ SpanOk rs) then (13 : Int) else 0) = E) := Lib.hid (by
              rw [← HE2.out, firstE_none fun i hi => HA.out i hi hi]
              rfl)
            have c2 : wr.cell? ⟨w.heap.size, 2, none⟩ = some (.int .i64 pt) := cell_heap HBk.out
            have c3 : wr.cell? ⟨w.heap.size, 3, none⟩ = some (.int .i64 rs) := cell_heap HBk.out
            obtain ⟨sp, hsp⟩ : ∃ sp : Int → Bool, ∀ z, sp z = decide (SpanOk z) := ⟨_, fun _ => rfl⟩
            have HS := Lib.hid (fun z u => tisSpan_any z u)
            simp only [← hsp] at HS
            have HSP := Lib.hid hsp
            clear hsp HA HE2 HRl HLs HOs HBk
            cases g1 : sp pt with
            | false =>
              have HE4 : Hid (13 = E) := Lib.hid (by rw [← HE3.out, if_pos]; intro h; rw [HSP.out, decide_eq_true h.1] at g1; cases g1)
              go_wp2_with (go_at_call 38; refine (HS.out _ _).mono ?_; rintro e w2 ⟨rfl, rfl⟩)
              go_ret
              exact ⟨by rw [← HE4.out]; rfl, HB.out⟩
            | true =>
              cases g2 : sp rs with
              | false =>
                have HE4 : Hid (13 = E) := Lib.hid (by rw [← HE3.out, if_pos]; intro h; rw [HSP.out, decide_eq_true h.2] at g2; cases g2)
                go_wp2_with (go_at_call 38; refine (HS.out _ _).mono ?_; rintro e w2 ⟨rfl, rfl⟩)
                go_ret
                exact ⟨by rw [← HE4.out]; rfl, HB.out⟩
              | true =>
                have HE4 : Hid (0 = E) := Lib.hid (by rw [← HE3.out, if_neg]; exact Classical.not_not.2 ⟨of_decide_eq_true ((HSP.out _).symm.trans g1), of_decide_eq_true ((HSP.out _).symm.trans g2)⟩)
                go_wp2_with (go_at_call 38; refine (HS.out _ _).mono ?_; rintro e w2 ⟨rfl, rfl⟩)
                go_ret
                exact ⟨by rw [← HE4.out]; rfl, HB.out⟩
  · have HT2 : Hid (Calls Tryz.prog 35 #[.slice a l.length c] (w.alloc (.cells #[.slice a l.length c, .slice b ls.length d, .int .i64 pt, .int .i64 rs] 25)) fun e w' => e = .returned (.bool false) ∧ w' = w.alloc (.cells #[.slice a l.length c, .slice b ls.length d, .int .i64 pt, .int .i64 rs] 25)) := Lib.hid (HT.out.mono fun e w' ⟨⟨x, h1, h2⟩, h3⟩ => ⟨by
      cases x with
      | true => exact absurd (h2.1 rfl) ht
      | false => exact h1, h3⟩)
    have HE2 : Hid (10 = E) := Lib.hid ((if_neg (fun k => ht ((treeB_iff l).1 k))).symm.trans HE.out)
    clear hl hls okl okls hA ht HE HT htab
    go_enter Tryz.func12, Tryz.ntmps12
    go_wp2_with (go_at_call 35; refine HT2.out.mono ?_; rintro e w1 ⟨rfl, rfl⟩)
    go_ret
    exact ⟨by rw [← HE2.out]; rfl, HB.out⟩

end Go.Proofs.YtmanjegdgjeeiaaGreatDoor
namespace Go.Proofs.YtmanjegdgjeeiaaGreatDoor
open Go.RowKit

theorem runKids_mem {g : Nat → List Nat} {co : Nat → Bool} {x : Nat} : ∀ {ks : List Nat}, x ∈ runKids g co ks → ∃ k ∈ ks, x ∈ g k
  | k :: r, h => by
    unfold runKids at h
    split at h
    · obtain ⟨q, h1, h2⟩ := runKids_mem h
      exact ⟨q, List.mem_cons_of_mem _ h1, h2⟩
    · split at h
      · rcases List.mem_append.1 h with h | h
        · exact ⟨k, by simp, h⟩
        · obtain ⟨q, h1, h2⟩ := runKids_mem h
          exact ⟨q, List.mem_cons_of_mem _ h1, h2⟩
      · exact ⟨k, by simp, h⟩
theorem kids_mem {l : List Rt} {a k : Nat} (h : k ∈ kidsP l a) : ∃ hk : k < l.length, l[k].par = (a : Int) := by
  unfold kidsP kidsTo at h
  obtain ⟨h1, h2⟩ := List.mem_filter.1 h
  have hk : k < l.length := List.mem_range.1 h1
  refine ⟨hk, ?_⟩
  simpa [hk] using h2
theorem walk_mem {tk co : Nat → Bool} {kids : Nat → List Nat} {f a x : Nat} (h : x ∈ walkP tk co kids (f + 1) a) : tk a = true ∧ (x = a ∨ ∃ k ∈ kids a, x ∈ walkP tk co kids f k) := by
  unfold walkP at h
  split at h
  · rename_i ht
    refine ⟨ht, ?_⟩
    split at h
    · exact Or.inl (List.mem_singleton.1 h)
    · exact Or.inr (runKids_mem h)
  · cases h

/-- A route that takes labels, as do all in which it stands. -/
def goodN (l : List Rt) (tk : Nat → Bool) : Nat → Nat → Prop
  | 0, _ => False
  | f + 1, y => ∃ hy : y < l.length, tk y = true ∧ (y = 0 ∨ ∃ p : Nat, l[y].par = (p : Int) ∧ goodN l tk f p)
def Good (l : List Rt) (tk : Nat → Bool) (y : Nat) : Prop := ∃ f, goodN l tk f y
theorem walk_good {l : List Rt} {tk co : Nat → Bool} : ∀ (f a x : Nat) (ha : a < l.length), (a = 0 ∨ ∃ p : Nat, l[a].par = (p : Int) ∧ Good l tk p) → x ∈ walkP tk co (kidsP l) f a → Good l tk x
  | 0, _, _, _, _, h => by cases h
  | f + 1, a, x, ha, hp, h => by
    obtain ⟨ht, hx⟩ := walk_mem h
    have hg : Good l tk a := by
      rcases hp with rfl | ⟨p, h1, q, h2⟩
      · exact ⟨1, ha, ht, Or.inl rfl⟩
      · exact ⟨q + 1, ha, ht, Or.inr ⟨p, h1, h2⟩⟩
    rcases hx with rfl | ⟨k, hk, hx⟩
    · exact hg
    · obtain ⟨hkl, hkp⟩ := kids_mem hk
      exact walk_good f k x hkl (Or.inr ⟨a, hkp, hg⟩) hx
theorem Good.out {l : List Rt} {tk : Nat → Bool} {y : Nat} (h : Good l tk y) : ∃ hy : y < l.length, tk y = true ∧ (y = 0 ∨ ∃ p : Nat, l[y].par = (p : Int) ∧ Good l tk p) := by
  obtain ⟨f, h⟩ := h
  cases f with
  | zero => exact absurd h (fun h => h)
  | succ f =>
    obtain ⟨hy, h1, h2⟩ := h
    exact ⟨hy, h1, h2.imp id fun ⟨p, h3, h4⟩ => ⟨p, h3, f, h4⟩⟩

/-- A route stands so many steps within another. -/
def descN (l : List Rt) : Nat → Nat → Nat → Prop
  | 0, a, x => x = a
  | d + 1, a, x => ∃ (hx : x < l.length) (p : Nat), l[x].par = (p : Int) ∧ descN l d a p
theorem desc_up {l : List Rt} {k a : Nat} (hk : k < l.length) (hp : l[k].par = (a : Int)) : ∀ {d x : Nat}, descN l d k x → descN l (d + 1) a x
  | 0, x, h => by
    obtain rfl : x = k := h
    exact ⟨hk, a, hp, rfl⟩
  | d + 1, x, ⟨hx, p, h1, h2⟩ => ⟨hx, p, h1, desc_up hk hp h2⟩
theorem walk_desc {l : List Rt} {tk co : Nat → Bool} : ∀ (f a x : Nat), x ∈ walkP tk co (kidsP l) f a → ∃ d, descN l d a x
  | 0, _, _, h => by cases h
  | f + 1, a, x, h => by
    rcases (walk_mem h).2 with rfl | ⟨k, hk, hx⟩
    · exact ⟨0, rfl⟩
    · obtain ⟨hkl, hkp⟩ := kids_mem hk
      obtain ⟨d, hd⟩ := walk_desc f k x hx
      exact ⟨d + 1, desc_up hkl hkp hd⟩
theorem desc_sub {l : List Rt} {a b : Nat} : ∀ {d e x : Nat}, descN l d a x → descN l (d + e) b x → descN l e b a
  | 0, e, x, h, k => by
    obtain rfl : x = a := h
    rw [Nat.zero_add] at k
    exact k
  | d + 1, e, x, ⟨hx, p, h1, h2⟩, k => by
    rw [show d + 1 + e = (d + e) + 1 by omega] at k
    obtain ⟨_, q, k1, k2⟩ := k
    obtain rfl : p = q := by rw [h1] at k1; exact Int.ofNat.inj k1
    exact desc_sub h2 k2
theorem tree_par {l : List Rt} (ht : TreeOk l) {x p : Nat} (hx : x < l.length) (h : l[x].par = (p : Int)) : p < x := by
  by_cases h0 : x = 0
  · subst h0
    obtain ⟨⟨_, h1, -⟩, -⟩ := ht
    rw [h1] at h
    omega
  · have := (ht.2 x hx (by omega)).2
    omega
theorem desc_le {l : List Rt} (ht : TreeOk l) {a : Nat} : ∀ {d x : Nat}, descN l d a x → a ≤ x
  | 0, x, h => by have : x = a := h; omega
  | d + 1, x, ⟨hx, p, h1, h2⟩ => by have := desc_le ht h2; have := tree_par ht hx h1; omega
theorem kids_apart {l : List Rt} (ht : TreeOk l) {a k q x d e : Nat} (hk : k ∈ kidsP l a) (hq : q ∈ kidsP l a) (h1 : descN l d k x) (h2 : descN l e q x) : k = q := by
  obtain ⟨hkl, hkp⟩ := kids_mem hk
  obtain ⟨hql, hqp⟩ := kids_mem hq
  have key : ∀ {k q : Nat} (hkl : k < l.length) (hql : q < l.length) {d e : Nat}, l[k].par = (a : Int) → l[q].par = (a : Int) → descN l d k x → descN l (d + e) q x → k = q := fun {k q} hkl hql {d e} hkp hqp h1 h2 => by
    have h3 := desc_sub h1 h2
    cases e with
    | zero => exact h3
    | succ e =>
      obtain ⟨_, p, h4, h5⟩ := h3
      obtain rfl : a = p := by rw [hkp] at h4; exact Int.ofNat.inj h4
      have := desc_le ht h5
      have := tree_par ht hql hqp
      omega
  by_cases hde : d ≤ e
  · exact key hkl hql hkp hqp h1 (by rw [show d + (e - d) = e by omega]; exact h2)
  · exact (key hql hkl hqp hkp h2 (by rw [show e + (d - e) = d by omega]; exact h1)).symm
theorem runKids_nodup {g : Nat → List Nat} {co : Nat → Bool} : ∀ {ks : List Nat}, ks.Nodup → (∀ k ∈ ks, (g k).Nodup) → (∀ k ∈ ks, ∀ q ∈ ks, ∀ x, x ∈ g k → x ∈ g q → k = q) → (runKids g co ks).Nodup
  | [], _, _, _ => List.nodup_nil
  | k :: r, h1, h2, h3 => by
    obtain ⟨hk, hr⟩ := List.nodup_cons.1 h1
    have ih := runKids_nodup (g := g) (co := co) hr (fun q hq => h2 q (List.mem_cons_of_mem _ hq)) (fun p hp q hq => h3 p (List.mem_cons_of_mem _ hp) q (List.mem_cons_of_mem _ hq))
    unfold runKids
    split
    · exact ih
    · split
      · refine List.nodup_append.2 ⟨h2 k (by simp), ih, fun x hx y hy e => ?_⟩
        subst e
        obtain ⟨q, hq, hxq⟩ := runKids_mem hy
        have := h3 k (by simp) q (List.mem_cons_of_mem _ hq) x hx hxq
        subst this
        exact hk hq
      · exact h2 k (by simp)
theorem walk_nodup {l : List Rt} (ht : TreeOk l) {tk co : Nat → Bool} : ∀ (f a : Nat), (walkP tk co (kidsP l) f a).Nodup
  | 0, _ => List.nodup_nil
  | f + 1, a => by
    unfold walkP
    split
    · split
      · exact List.nodup_cons.2 ⟨by simp, List.nodup_nil⟩
      · refine runKids_nodup ?_ (fun k _ => walk_nodup ht f k) fun k hk q hq x h1 h2 => ?_
        · unfold kidsP kidsTo
          exact List.nodup_range.filter _
        · obtain ⟨d, hd⟩ := walk_desc f k x h1
          obtain ⟨e, he⟩ := walk_desc f q x h2
          exact kids_apart ht hk hq hd he
    · exact List.nodup_nil
theorem walkL_few (l : List Rt) (tk : Nat → Bool) : (walkL l tk).length ≤ (l.length + 1) * l.length := by
  unfold walkL
  split
  · simp
  · exact walk_few l tk (coP l) (l.length + 1) 0 (by omega)
/-- What is told of labels through a tree. -/
theorem walkL_tree {l : List Rt} (ht : TreeOk l) {ps : List Pr} {tk : Nat → Bool} (hk : TkOk l ps tk) : 0 < (walkL l tk).length ∧ (∀ x ∈ walkL l tk, Good l tk x) ∧ ∀ i j (hi : i < (walkL l tk).length) (hj : j < (walkL l tk).length), i < j → (walkL l tk)[i] ≠ (walkL l tk)[j] := by
  obtain ⟨h0, -, h2⟩ := ht.1
  have e : walkL l tk = walkP tk (coP l) (kidsP l) (l.length + 1) 0 := by unfold walkL; rw [if_neg (by omega)]
  have htk : tk 0 = true := (hk 0 h0).2 fun m hm => by
    rw [List.eq_nil_of_length_eq_zero h2] at hm
    cases hm
  refine ⟨?_, fun x hx => ?_, ?_⟩
  · rw [e]
    unfold walkP
    rw [if_pos htk]
    split
    · simp
    · rename_i h
      exact List.length_pos_iff.2 h
  · rw [e] at hx
    exact walk_good _ 0 x h0 (Or.inl rfl) hx
  · have hn : (walkL l tk).Nodup := by rw [e]; exact walk_nodup ht _ _
    intro i j hi hj hij
    exact List.pairwise_iff_getElem.1 hn i j hi hj hij


theorem conf_tree {l : List Rt} {ls : List Rl} {pt rs : Int} (h : confE l ls pt rs = 0) : TreeOk l := by
  unfold confE at h
  split at h
  · cases h
  · exact Classical.byContradiction fun k => by
      have h2 : (10 : Int) = 0 := (if_neg fun q => k ((treeB_iff l).1 q)).symm.trans h
      cases h2

end Go.Proofs.YtmanjegdgjeeiaaGreatDoor
