/-
  Two stores that hold the same alerts; a call's arguments; few of package watchfirelaw07.
-/
import Derived.Test.YtdnpfmmkglgnjabDoorA13
namespace Go.Proofs.YtdnpfmmkglgnjabDoor
open Go.RowKit

/-- Two lists of alerts tell the same. -/
def Sim (S R : List Rw) : Prop := S.map Rw.al = R.map Rw.al
theorem Sim.len {S R : List Rw} (h : Sim S R) : S.length = R.length := by simpa using congrArg List.length h
theorem Sim.find {S R : List Rw} (h : Sim S R) (k : List UInt8) : (S.find? (fun r => r.key == k)).map Rw.al = (R.find? (fun r => r.key == k)).map Rw.al := by
  have e : ∀ L : List Rw, (L.find? (fun r => r.key == k)).map Rw.al = (L.map Rw.al).find? (fun a => keyL a.1 == k) := fun L => by rw [List.find?_map]; rfl
  rw [e, e, h]
theorem Sim.start {S R : List Rw} (h : Sim S R) (ps : List Pr) (s e : Int) : startA S ps s e = startA R ps s e := by
  have h1 := h.find (keyL ps)
  unfold startA
  cases hs : S.find? (fun r => r.key == keyL ps) with
  | none =>
    cases hr : R.find? (fun r => r.key == keyL ps) with
    | none => rfl
    | some r => rw [hs, hr] at h1; cases h1
  | some x =>
    cases hr : R.find? (fun r => r.key == keyL ps) with
    | none => rw [hs, hr] at h1; cases h1
    | some y =>
      rw [hs, hr] at h1
      have e1 : x.al = y.al := by simpa using h1
      have e2 : x.st = y.st := congrArg (fun p : Al => p.2.1) e1
      have e3 : x.en = y.en := congrArg (fun p : Al => p.2.2) e1
      simp only [e2, e3]
theorem Sim.putE {S R : List Rw} (h : Sim S R) (ps : List Pr) (s e : Int) : putE S ps s e = putE R ps s e := by
  have h1 := congrArg Option.isNone (h.find (keyL ps))
  rw [Option.isNone_map, Option.isNone_map] at h1
  unfold Go.Proofs.YtdnpfmmkglgnjabDoor.putE
  rw [h1, h.len]
def insAl (x : Al) : List Al → List Al
  | [] => [x]
  | y :: l => if keyL x.1 < keyL y.1 then x :: y :: l else y :: insAl x l
theorem ins_al (x : Rw) : ∀ S : List Rw, (insR x S).map Rw.al = insAl x.al (S.map Rw.al)
  | [] => rfl
  | y :: l => by
    rw [insR, List.map_cons, insAl]
    by_cases h : x.key < y.key
    · rw [if_pos h, if_pos (show keyL x.al.1 < keyL y.al.1 from h)]; rfl
    · rw [if_neg h, if_neg (show ¬ keyL x.al.1 < keyL y.al.1 from h), List.map_cons, ins_al x l]
theorem Sim.put {S R : List Rw} (h : Sim S R) {x y : Rw} (hxy : x.al = y.al) : Sim (putR x S) (putR y R) := by
  have hk : x.key = y.key := congrArg (fun p : Al => keyL p.1) hxy
  have e : ∀ L : List Rw, ∀ k, (L.filter fun z => !(z.key == k)).map Rw.al = (L.map Rw.al).filter (fun a => !(keyL a.1 == k)) := fun L k => by rw [List.filter_map]; rfl
  unfold Sim putR
  rw [ins_al, ins_al, e, e, hk, hxy, h]
theorem Sim.filter {S R : List Rw} (h : Sim S R) (p : Int → Int → Bool) : Sim (S.filter fun r => p r.st r.en) (R.filter fun r => p r.st r.en) := by
  have e : ∀ L : List Rw, (L.filter fun r => p r.st r.en).map Rw.al = (L.map Rw.al).filter (fun a => p a.2.1 a.2.2) := fun L => by rw [List.filter_map]; rfl
  unfold Sim
  rw [e, e, h]
theorem Sim.drop {S R : List Rw} (h : Sim S R) (b : Int) : Sim (dropS S b) (dropS R b) := h.filter (fun _ e => !decide (e < b))
theorem Sim.symm {S R : List Rw} (h : Sim S R) : Sim R S := Eq.symm h

theorem AlsAt.turn {w w' : World} {a : Option Addr} {L : List Rw} {bm : Nat} {S : List Rw} (h : AlsAt w a L) (hg : w.grownBy w' (some bm)) (hm : StMap w bm S) : AlsAt w' a L := fun hn => by
  obtain ⟨b, o, rfl, hbl, hc⟩ := h hn
  refine ⟨b, o, rfl, Nat.lt_of_lt_of_le hbl hg.size, fun i hi => ?_⟩
  obtain ⟨h1, h2, h3, h4⟩ := hc i hi
  have hne : b ≠ bm := fun e => by
    obtain ⟨es, clock, hb, -⟩ := hm
    subst e
    simp [World.cell?, hb] at h1
  have e := hg.block b hbl (fun e => hne (Option.some.inj e))
  rw [World.cell?_of_block (a := ⟨b, o + i * 3, none⟩) e, World.cell?_of_block (a := ⟨b, o + i * 3 + 1, none⟩) e, World.cell?_of_block (a := ⟨b, o + i * 3 + 2, none⟩) e]
  exact ⟨h1, h2, h3, h4.turn hg hm⟩
theorem RsAt.turn {w w' : World} {a : Option Addr} {c : Nat} {R : List Rw} {bm : Nat} {S : List Rw} (h : RsAt w a c R) (hg : w.grownBy w' (some bm)) (hm : StMap w bm S) : RsAt w' a c R := ⟨h.1.turn hg hm, h.2⟩
/-- A store stays what it is while a block is written that is none of its own. -/
theorem StAt.off {w w' : World} {sb bm : Nat} {S : List Rw} {g : Nat} (h : StAt w sb bm S) (hg : w.grownBy w' (some g)) (h1 : sb ≠ g) (h2 : bm ≠ g) (h3 : ∀ r ∈ S, ∀ q, r.ad = some q → q.block ≠ g) : StAt w' sb bm S :=
  ⟨h.1.kept hg (fun e => h1 (Option.some.inj e)), h.2.1.kept hg (fun e => h2 (Option.some.inj e)), fun r hr => ⟨fun hn => by
    obtain ⟨b, o, e, hc⟩ := (h.2.2 r hr).1 hn
    refine ⟨b, o, e, fun i hi => ?_⟩
    obtain ⟨c1, c2⟩ := hc i hi
    have eb := hg.block b (World.block_lt_of_cell? w _ c1) (fun x => h3 r hr _ e (Option.some.inj x))
    rw [World.cell?_of_block (a := ⟨b, o + i * 2, none⟩) eb, World.cell?_of_block (a := ⟨b, o + i * 2 + 1, none⟩) eb]
    exact ⟨c1, c2⟩, (h.2.2 r hr).2⟩⟩

/-- A call: its kind, its alert, its number. -/
structure Ac where
  kd : Int
  al : Rw
  nn : Int
def encAc (x : Ac) : List Value := [.int .u8 x.kd, .slice x.al.ad x.al.ps.length x.al.cp, .int .i64 x.al.st, .int .i64 x.al.en, .int .i64 x.nn]
abbrev acV (x : Ac) : Value := .agg #[.int .u8 x.kd, .slice x.al.ad x.al.ps.length x.al.cp, .int .i64 x.al.st, .int .i64 x.al.en, .int .i64 x.nn]
/-- Calls lie at an address, and their labels where they say. -/
def AcsAt (w : World) (a : Option Addr) (l : List Ac) : Prop :=
  0 < l.length → ∃ b o, a = some ⟨b, o, none⟩ ∧ b < w.heap.size ∧ ∀ i (hi : i < l.length), (∀ j v, (encAc l[i])[j]? = some v → w.cell? ⟨b, o + i * 5 + j, none⟩ = some v) ∧ PairsAt w l[i].al.ad l[i].al.ps
/-- A call that fits into a machine. -/
def AcOk (x : Ac) : Prop := (0 ≤ x.kd ∧ x.kd < 256) ∧ (x.al.ad = none → x.al.cp = 0) ∧ x.al.ps.length ≤ 9223372036854775807 ∧ ∀ p ∈ x.al.ps, p.1.size ≤ 9223372036854775807
theorem AcsAt.below {w w' : World} {a : Option Addr} {l : List Ac} {B : Nat} (h : AcsAt w a l) (hb : Below B w w') (hB : w.heap.size ≤ B) : AcsAt w' a l := fun hn => by
  obtain ⟨b, o, rfl, hbl, hc⟩ := h hn
  refine ⟨b, o, rfl, Nat.lt_of_lt_of_le hbl hb.size, fun i hi => ?_⟩
  obtain ⟨h1, h2⟩ := hc i hi
  refine ⟨fun j v hv => ?_, h2.below hb hB⟩
  rw [hb.cell (p := ⟨b, o + i * 5 + j, none⟩) (Nat.lt_of_lt_of_le hbl hB)]
  exact h1 j v hv
/-- A call's five cells at a place. -/
def AcC (w : World) (b p : Nat) (x : Ac) : Prop := b < w.heap.size ∧ w.cell? ⟨b, p, none⟩ = some (.int .u8 x.kd) ∧ w.cell? ⟨b, p + 1, none⟩ = some (.slice x.al.ad x.al.ps.length x.al.cp) ∧ w.cell? ⟨b, p + 2, none⟩ = some (.int .i64 x.al.st) ∧ w.cell? ⟨b, p + 3, none⟩ = some (.int .i64 x.al.en) ∧ w.cell? ⟨b, p + 4, none⟩ = some (.int .i64 x.nn)
theorem AcC.below {w w' : World} {b p : Nat} {x : Ac} {N : Nat} (h : AcC w b p x) (hb : Below N w w') (hN : w.heap.size ≤ N) : AcC w' b p x := by
  have hlt := Nat.lt_of_lt_of_le h.1 hN
  refine ⟨Nat.lt_of_lt_of_le h.1 hb.size, ?_⟩
  rw [hb.cell (p := ⟨b, p, none⟩) hlt, hb.cell (p := ⟨b, p + 1, none⟩) hlt, hb.cell (p := ⟨b, p + 2, none⟩) hlt, hb.cell (p := ⟨b, p + 3, none⟩) hlt, hb.cell (p := ⟨b, p + 4, none⟩) hlt]
  exact h.2
theorem AcsAt.c {w : World} {a : Option Addr} {l : List Ac} (h : AcsAt w a l) (k : Nat) (hk : k < l.length) : ∃ b o, a = some ⟨b, o, none⟩ ∧ AcC w b (o + k * 5) l[k] ∧ PairsAt w l[k].al.ad l[k].al.ps := by
  obtain ⟨b, o, rfl, hb, hc⟩ := h (by omega)
  obtain ⟨h1, h2⟩ := hc k hk
  exact ⟨b, o, rfl, ⟨hb, h1 0 _ rfl, h1 1 _ rfl, h1 2 _ rfl, h1 3 _ rfl, h1 4 _ rfl⟩, h2⟩

/-- Few calls, with few labels. -/
def fewP (l : List Ac) : Prop := l.length ≤ 80 ∧ ∀ x ∈ l, x.al.ps.length ≤ 12
theorem few_dec (l : List Ac) : ∃ b : Bool, (b = true ↔ fewP l) := by
  by_cases h : fewP l
  · exact ⟨true, by simp [h]⟩
  · exact ⟨false, by simp [h]⟩
/-- What few tells. -/
def FewPost (l : List Ac) (w : World) (e : Ending) (w' : World) : Prop := ∃ b : Bool, e = .returned (.bool b) ∧ (b = true ↔ fewP l) ∧ w' = w

set_option maxRecDepth 100000 in
set_option maxHeartbeats 4000000 in
theorem awFew_any (a : Option Addr) (c : Nat) (l : List Ac) (w : World) (h : AcsAt w a l) (hn : l.length ≤ 9223372036854775807) : Calls Tryd.prog 4 #[.slice a l.length c] w (FewPost l w) := by
  unfold FewPost
  obtain ⟨b0, hb0⟩ := few_dec l
  have HB0 := Lib.hid hb0
  have HP : Hid (∀ (e : Ending) (w' : World), (e = .returned (.bool b0) ∧ w' = w) → ∃ b : Bool, e = .returned (.bool b) ∧ (b = true ↔ fewP l) ∧ w' = w) := Lib.hid fun e w' ⟨h1, h2⟩ => ⟨b0, h1, hb0, h2⟩
  refine Calls.mono (R := fun e w' => e = .returned (.bool b0) ∧ w' = w) ?_ (fun e w' h => HP.out e w' h)
  clear HP hb0
  obtain ⟨n, hnl⟩ : ∃ n, n = l.length := ⟨_, rfl⟩
  rw [← hnl] at hn ⊢
  have HN := Lib.hid hnl
  have HH := Lib.hid h
  clear h hnl
  by_cases h80 : 80 < n
  · have h80' : (80 : Int) < (n : Int) := by omega
    have hb : b0 = false := by
      rw [← Bool.not_eq_true]
      intro e
      have := (HB0.out.1 e).1
      have := HN.out
      omega
    subst hb
    go_enter Tryd.func4, Tryd.ntmps4
    go_wp2
    go_ret
    exact ⟨rfl, rfl⟩
  · have h80' : ¬ (80 : Int) < (n : Int) := by omega
    go_enter Tryd.func4, Tryd.ntmps4
    go_wp2
    go_loop [3] (fun i => ∃ k : Nat, k ≤ n ∧ i = .int .i64 k ∧ Hid (∀ j (_ : j < k) (hl : j < l.length), l[j].al.ps.length ≤ 12)) (fun i => n - (intOf i).toNat)
    case atStart => exact ⟨0, Nat.zero_le _, rfl, Lib.hid fun j hj => absurd hj (Nat.not_lt_zero _)⟩
    case round =>
      obtain ⟨k, hk, rfl, HA⟩ := hrel
      by_cases hlt : k < n
      · have hkl : (k : Int) < (n : Int) := by omega
        have hkS : k < l.length := by have := HN.out; omega
        obtain ⟨b1, o1, rfl, hc1, -⟩ := HH.out.c k hkS
        have e1 := hc1.2.2.1
        have HX : Hid (l[k].al.ps.length ≤ 12 → ∀ j (_ : j < k + 1) (hl : j < l.length), l[j].al.ps.length ≤ 12) := Lib.hid fun e j hj hl => by
          by_cases ej : j = k
          · subst ej; exact e
          · exact HA.out j (by omega) hl
        have HY : Hid (¬ l[k].al.ps.length ≤ 12 → b0 = false) := Lib.hid fun e => by
          rw [← Bool.not_eq_true]
          intro eb
          exact e ((HB0.out.1 eb).2 _ (List.getElem_mem hkS))
        clear hc1 HA
        generalize l[k].al.ps.length = np at *
        generalize l[k].al.ad = ap at *
        generalize l[k].al.cp = cp at *
        by_cases h12 : np ≤ 12
        · have h12' : ¬ (12 : Int) < (np : Int) := by omega
          have HA2 := Lib.hid (HX.out h12)
          clear HX HY
          go_wp2
          go_round
          case rel => exact ⟨k + 1, by omega, by go_num, HA2⟩
          case measure => simp [intOf]; omega
        · have h12' : (12 : Int) < (np : Int) := by omega
          have hb := HY.out h12
          subst hb
          clear HX HY
          go_wp2
          go_ret
          exact ⟨rfl, rfl⟩
      · have hkl : ¬ (k : Int) < (n : Int) := by omega
        have hb : b0 = true := HB0.out.2 ⟨by have := HN.out; omega, fun x hx => by
          obtain ⟨i, hi, rfl⟩ := List.getElem_of_mem hx
          exact HA.out i (by have := HN.out; omega) hi⟩
        subst hb
        clear HA
        go_wp2
        go_ret
        exact ⟨rfl, rfl⟩

end Go.Proofs.YtdnpfmmkglgnjabDoor
