/-
  Matchers in memory; what All and CheckAll of package match do.
-/
import Derived.Test.YtfllfmdopfeecabGreatDoorM2
import Derived.Test.YtfllfmdopfeecabGreatDoorMShelf
namespace Go.Proofs.YtfllfmdopfeecabGreatDoor
open Go.RowKit Go.Shelf

/-- Matchers lie at an address; where there are none, anywhere. -/
def MtsAt (w : World) (a : Option Addr) (ms : List Mt) : Prop :=
  0 < ms.length → ∃ b o, a = some ⟨b, o, none⟩ ∧ b < w.heap.size ∧ ∀ i (hi : i < ms.length), w.cell? ⟨b, o + i * 3, none⟩ = some (.string ms[i].1) ∧ w.cell? ⟨b, o + i * 3 + 1, none⟩ = some (.int .u8 (ms[i].2.1 : Int)) ∧ w.cell? ⟨b, o + i * 3 + 2, none⟩ = some (.string ms[i].2.2)
theorem MtsAt.below {w w' : World} {a : Option Addr} {ms : List Mt} {B : Nat} (h : MtsAt w a ms) (hb : Below B w w') (hB : w.heap.size ≤ B) : MtsAt w' a ms := fun hn => by
  obtain ⟨b, o, rfl, hbl, hc⟩ := h hn
  refine ⟨b, o, rfl, Nat.lt_of_lt_of_le hbl hb.size, fun i hi => ?_⟩
  obtain ⟨h1, h2, h3⟩ := hc i hi
  have hl : b < B := Nat.lt_of_lt_of_le hbl hB
  exact ⟨by rw [hb.cell (p := ⟨b, o + i * 3, none⟩) hl]; exact h1, by rw [hb.cell (p := ⟨b, o + i * 3 + 1, none⟩) hl]; exact h2, by rw [hb.cell (p := ⟨b, o + i * 3 + 2, none⟩) hl]; exact h3⟩
theorem MtsAt.cells {w : World} {b o : Nat} {ms : List Mt} (h : ∀ i (hi : i < ms.length), w.cell? ⟨b, o + i * 3, none⟩ = some (.string ms[i].1) ∧ w.cell? ⟨b, o + i * 3 + 1, none⟩ = some (.int .u8 (ms[i].2.1 : Int)) ∧ w.cell? ⟨b, o + i * 3 + 2, none⟩ = some (.string ms[i].2.2)) :
    ∀ j, j < ms.length → ∀ i v, (encM ms[j]!)[i]? = some v → w.cell? ⟨b, o + j * 3 + i, none⟩ = some v := fun j hj i v hv => by
  obtain ⟨h1, h2, h3⟩ := h j hj
  rw [getElem!_pos ms j hj] at hv
  match i, hv with
  | 0, hv => simp [encM] at hv; rw [← hv]; exact h1
  | 1, hv => simp [encM] at hv; rw [← hv]; exact h2
  | 2, hv => simp [encM] at hv; rw [← hv]; exact h3
  | i + 3, hv => simp [encM] at hv

set_option maxHeartbeats 1000000 in
theorem idx_none (a : Option Addr) (c : Nat) (fv : Value) (w : World) : Calls Tryz.prog 61 #[.slice a 0 c, fv] w fun e w' => e = .returned (.int .i64 (-1)) ∧ w' = w := by
  go_enter Tryz.func61, Tryz.ntmps61
  go_wp2
  go_loopg [5, 8] 0 (fun _ _ s8 wr => s8 = .int .i64 0 ∧ wr = w)
  case atStart => exact ⟨rfl, rfl⟩
  case round =>
    obtain ⟨rfl, rfl⟩ := hrel
    go_wp2
    go_ret
    exact ⟨rfl, rfl⟩
set_option maxHeartbeats 1000000 in
theorem has_none (a : Option Addr) (c : Nat) (fv : Value) (w : World) : Calls Tryz.prog 52 #[.slice a 0 c, fv] w fun e w' => e = .returned (.bool false) ∧ w' = w := by
  have HI := Lib.hid (fun u => idx_none a c fv u)
  go_enter Tryz.func52, Tryz.ntmps52
  go_wp2_with (go_at_call 61; refine (HI.out _).mono ?_; rintro e w' ⟨rfl, rfl⟩)
  go_ret
  exact ⟨rfl, rfl⟩

set_option maxHeartbeats 1000000 in
theorem notOne_any (B : Nat) (a : Option Addr) (c : Nat) (ps : List Pr) (p : Mt → Bool) (hp : ∀ x, p x = true ↔ ¬ mAsk ps x) (w : World) (htab : TabW w) (h : PairsAt w a ps) (hn : ps.length ≤ 9223372036854775807) (hv : ∀ q ∈ ps, q.2.size ≤ 9223372036854775807) (hB : B < w.heap.size) (hc : w.cell? ⟨B, 0, none⟩ = some (.slice a ps.length c)) :
    PredBelow Tryz.prog 53 #[.pointer (some ⟨B, 0, none⟩)] (fun x => .agg (encM x).toArray) p w := fun W x hb => by
  obtain ⟨n, o, v⟩ := x
  have htl := htab.lt
  have hA := hb.alloc hb.size (.cells #[.string n, .int .u8 (o : Int), .string v] 61)
  have hcA : (W.alloc (.cells #[.string n, .int .u8 (o : Int), .string v] 61)).cell? ⟨B, 0, none⟩ = some (.slice a ps.length c) := (hA.cell (p := ⟨B, 0, none⟩) hB).trans hc
  have HO := Lib.hid (mOne_any n o v a c ps (W.alloc (.cells #[.string n, .int .u8 (o : Int), .string v] 61)) (htab.on hA htl) (h.below hA (Nat.le_refl _)) hn hv _ rfl)
  have HP := Lib.hid (hp (n, o, v))
  clear h htab hv hp
  show Calls Tryz.prog 53 #[.agg #[.string n, .int .u8 (o : Int), .string v], .pointer (some ⟨B, 0, none⟩)] W _
  go_enter Tryz.func53, Tryz.ntmps53
  go_wp2_with (go_at_call 54; refine HO.out.mono ?_; rintro e w1 ⟨⟨b, rfl, hb1⟩, q1⟩; have HB := Lib.hid hb1; clear hb1)
  go_ret
  refine ⟨?_, hA.trans (q1.mono hA.size)⟩
  have e : (!b) = p (n, o, v) := by
    have k1 := HB.out
    have k2 := HP.out
    cases b <;> cases hq : p (n, o, v) <;> simp_all
  rw [← e]
  rfl

set_option maxHeartbeats 2000000 in
theorem mAll_any (a : Option Addr) (c : Nat) (ms : List Mt) (b : Option Addr) (d : Nat) (ps : List Pr) (w : World) (htab : TabW w) (hm : MtsAt w a ms) (hml : ms.length ≤ 9223372036854775807) (h : PairsAt w b ps) (hn : ps.length ≤ 9223372036854775807) (hv : ∀ q ∈ ps, q.2.size ≤ 9223372036854775807) (k : Nat) (hk : k = ms.length) :
    Calls Tryz.prog 36 #[.slice a k c, .slice b ps.length d] w fun e w' => Tells (∀ m ∈ ms, mAsk ps m) e ∧ Below w.heap.size w w' := by
  subst hk
  have htl := htab.lt
  have hA := (Below.refl w.heap.size w).alloc (Nat.le_refl _) (.cells #[.slice b ps.length d] 35)
  by_cases h0 : ms.length = 0
  · have HN := Lib.hid (fun fv u => has_none a c fv u)
    have hms : ms = [] := List.eq_nil_of_length_eq_zero h0
    have HT : Hid (∀ m ∈ ms, mAsk ps m) := Lib.hid (by rw [hms]; intro m hm; cases hm)
    have h0' : (ms.length : Int) = 0 := by omega
    rw [h0]
    clear h0' hms hm hml h0
    go_enter Tryz.func36, Tryz.ntmps36
    go_wp2_with (go_at_call 52; refine (HN.out _ _).mono ?_; rintro e w1 ⟨rfl, rfl⟩)
    go_ret
    exact ⟨⟨true, rfl, by simpa using HT.out⟩, hA⟩
  · obtain ⟨p, hp⟩ : ∃ p : Mt → Bool, ∀ x, p x = true ↔ ¬ mAsk ps x := ⟨fun x => @decide (¬ mAsk ps x) (Classical.propDecidable _), fun x => by simp⟩
    obtain ⟨mb, mo, rfl, hmb, hc⟩ := hm (by omega)
    have eg : ∀ args w, (callFunc 53 args).run Tryz.prog w = .ok (.enter 53 args) w := enters_of Tryz.func53 (by kernel_rfl) rfl
    have hcA : (w.alloc (.cells #[.slice b ps.length d] 35)).cell? ⟨w.heap.size, 0, none⟩ = some (.slice b ps.length d) := cell_heap (heap_new w _)
    have hcon := AnyQ.slices_ContainsFunc Tryz.lHasFunc 3 Tryz.isAgg61 Tryz.sizeOf61 encM (fun _ => rfl) p 53 #[.pointer (some ⟨w.heap.size, 0, none⟩)] eg mb mo ms.length c ms (w.alloc (.cells #[.slice b ps.length d] 35))
      (notOne_any w.heap.size b d ps p hp _ (htab.on hA htl) (h.below hA (Nat.le_refl _)) hn hv (by simp) hcA) (Nat.le_refl _) hml (by simp; omega) (MtsAt.cells fun i hi => by
        obtain ⟨h1, h2, h3⟩ := hc i hi
        exact ⟨by rw [hA.cell (p := ⟨mb, mo + i * 3, none⟩) hmb]; exact h1, by rw [hA.cell (p := ⟨mb, mo + i * 3 + 1, none⟩) hmb]; exact h2, by rw [hA.cell (p := ⟨mb, mo + i * 3 + 2, none⟩) hmb]; exact h3⟩)
    change Calls Tryz.prog 52 _ _ _ at hcon
    have HT : Hid ((!(ms.take ms.length).any p) = true ↔ ∀ m ∈ ms, mAsk ps m) := Lib.hid (by
      rw [List.take_length]
      simp only [Bool.not_eq_true', List.any_eq_false]
      constructor
      · intro k m hm
        exact Classical.not_not.1 fun e => k m hm ((hp m).2 e)
      · intro k m hm e
        exact (hp m).1 e (k m hm))
    generalize (ms.take ms.length).any p = r at *
    have HC := Lib.hid hcon
    clear hcon hc hp eg hcA h hv
    go_enter Tryz.func36, Tryz.ntmps36
    go_wp2_with (go_at_call 52; refine HC.out.mono ?_; rintro e w1 ⟨rfl, q1⟩)
    go_ret
    exact ⟨⟨!r, rfl, HT.out⟩, hA.trans (q1.mono hA.size)⟩

end Go.Proofs.YtfllfmdopfeecabGreatDoor
