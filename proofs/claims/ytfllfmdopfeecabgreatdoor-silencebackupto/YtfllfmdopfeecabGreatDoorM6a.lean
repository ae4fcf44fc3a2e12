/-
  CheckAll of package match.
-/
import Derived.Test.YtfllfmdopfeecabGreatDoorM5
namespace Go.Proofs.YtfllfmdopfeecabGreatDoor
open Go.RowKit Go.Shelf

/-- The first error of matchers. -/
def allE : List Mt → Int
  | [] => 0
  | m :: r => if mErr m ≠ 0 then mErr m else allE r
def checkAllE (ms : List Mt) : Int := if 8 < ms.length then 5 else allE ms
theorem allE_none : ∀ {ms : List Mt}, (∀ m ∈ ms, mErr m = 0) → allE ms = 0
  | [], _ => rfl
  | m :: r, h => by
    unfold allE
    rw [if_neg (by simpa using h m (by simp))]
    exact allE_none fun x hx => h x (by simp [hx])
theorem allE_hit : ∀ {ms : List Mt} {k : Nat} (hk : k < ms.length), (∀ j (_ : j < k) (hj : j < ms.length), mErr ms[j] = 0) → mErr ms[k] ≠ 0 → allE ms = mErr ms[k]
  | m :: r, 0, _, _, h => by
    unfold allE
    exact if_pos h
  | m :: r, k + 1, hk, hz, h => by
    unfold allE
    have h0 : mErr m = 0 := hz 0 (by omega) (by simp)
    rw [if_neg (by simpa using h0)]
    exact allE_hit (k := k) (by simpa using hk) (fun j hj hl => hz (j + 1) (by omega) (by simpa using hl)) h
/-- All may be, or there is a first one that may not. -/
theorem first_bad (ms : List Mt) : (∀ m ∈ ms, mErr m = 0) ∨ ∃ k, ∃ hk : k < ms.length, (∀ j (_ : j < k) (hj : j < ms.length), mErr ms[j] = 0) ∧ mErr ms[k] ≠ 0 := by
  induction ms with
  | nil => left; intro m hm; cases hm
  | cons m r ih =>
    by_cases h : mErr m = 0
    · rcases ih with ih | ⟨k, hk, h1, h2⟩
      · left; intro x hx; rcases List.mem_cons.1 hx with rfl | hx
        · exact h
        · exact ih x hx
      · right
        refine ⟨k + 1, by simpa using hk, fun j hj hl => ?_, h2⟩
        cases j with
        | zero => exact h
        | succ j => exact h1 j (by omega) (by simpa using hl)
    · right
      exact ⟨0, by simp, fun j hj => absurd hj (Nat.not_lt_zero _), h⟩

set_option maxHeartbeats 1000000 in
theorem bad_any (w : World) (htab : TabW w) : PredBelow Tryz.prog 62 #[] (fun x => .agg (encM x).toArray) (fun x => mErr x != 0) w := fun W x hb => by
  obtain ⟨n, o, v⟩ := x
  have hA := hb.alloc hb.size (.cells #[.string n, .int .u8 (o : Int), .string v] 61)
  have HC := Lib.hid (mCheck_any n o v _ (htab.on hA htab.lt))
  show Calls Tryz.prog 62 #[.agg #[.string n, .int .u8 (o : Int), .string v]] W fun e w' => e = .returned (.bool (mErr (n, o, v) != 0)) ∧ Below w.heap.size w w'
  generalize mErr (n, o, v) = E at *
  go_enter Tryz.func62, Tryz.ntmps62
  go_wp2_with (go_at_call 63; refine HC.out.mono ?_; rintro e w1 ⟨rfl, q1⟩)
  go_ret
  exact ⟨rfl, hA.trans (q1.mono hA.size)⟩

set_option maxRecDepth 20000 in
set_option maxHeartbeats 2000000 in
theorem mCheckAll_any (a : Option Addr) (c : Nat) (ms : List Mt) (w : World) (htab : TabW w) (hm : MtsAt w a ms) (hml : ms.length ≤ 9223372036854775807) :
    Calls Tryz.prog 40 #[.slice a ms.length c] w fun e w' => e = .returned (.int .i64 (checkAllE ms)) ∧ Below w.heap.size w w' := by
  unfold checkAllE
  have htl := htab.lt
  by_cases h8 : 8 < ms.length
  · have h8' : (8 : Int) < (ms.length : Int) := by omega
    rw [if_pos h8]
    clear h8
    go_enter Tryz.func40, Tryz.ntmps40
    go_wp2
    go_ret
    exact ⟨rfl, Below.refl _ _⟩
  have h8' : ¬ (8 : Int) < (ms.length : Int) := by omega
  rw [if_neg h8]
  by_cases h0 : ms.length = 0
  · have hms : ms = [] := List.eq_nil_of_length_eq_zero h0
    subst hms
    have HN := Lib.hid (fun fv u => idx_none a c fv u)
    clear h0 h8 h8'
    show Calls Tryz.prog 40 #[.slice a 0 c] w fun e w' => e = .returned (.int .i64 0) ∧ Below w.heap.size w w'
    go_enter Tryz.func40, Tryz.ntmps40
    go_wp2_with (go_at_call 61; refine (HN.out _ _).mono ?_; rintro e w1 ⟨rfl, rfl⟩)
    go_ret
    exact ⟨rfl, Below.refl _ _⟩
  · obtain ⟨mb, mo, rfl, hmb, hc⟩ := hm (by omega)
    have eg : ∀ args w, (callFunc 62 args).run Tryz.prog w = .ok (.enter 62 args) w := enters_of Tryz.func62 (by kernel_rfl) rfl
    have hcon := AnyQ.slices_IndexFunc Tryz.lIdxFunc 3 Tryz.isAgg61 Tryz.sizeOf61 encM (fun _ => rfl) (fun x => mErr x != 0) 62 #[] eg mb mo ms.length c ms w (bad_any w htab) (Nat.le_refl _) hml hmb (MtsAt.cells hc)
    change Calls Tryz.prog 61 _ _ _ at hcon
    rcases first_bad ms with hall | ⟨k, hk, h1, h2⟩
    · rw [Lib.idxBy_miss (fun _ y => mErr y != 0) ms ms.length default (fun j hj => by rw [getElem!_pos ms j hj]; simp [hall _ (List.getElem_mem hj)])] at hcon
      rw [allE_none hall]
      have HC := Lib.hid hcon
      clear hcon hc eg hall hm
      go_enter Tryz.func40, Tryz.ntmps40
      go_wp2_with (go_at_call 61; refine HC.out.mono ?_; rintro e w1 ⟨rfl, q1⟩)
      go_ret
      exact ⟨rfl, q1⟩
    · rw [Lib.idxBy_hit (fun _ y => mErr y != 0) ms ms.length k default hk (Nat.le_refl _) (by rw [getElem!_pos ms k hk]; simpa using h2) (fun j hj => by rw [getElem!_pos ms j (by omega)]; simp [h1 j hj (by omega)])] at hcon
      rw [allE_hit hk h1 h2]
      obtain ⟨E, hE⟩ : ∃ E, E = mErr ms[k] := ⟨_, rfl⟩
      rw [← hE]
      have HC := Lib.hid hcon
      have hkl : (k : Int) < (ms.length : Int) := by omega
      have hk0 : ¬ (k : Int) < 0 := by omega
      obtain ⟨d0, d1, d2⟩ := hc k hk
      have HK : Hid (∀ u, TabW u → Calls Tryz.prog 63 #[.agg #[.string ms[k].1, .int .u8 (ms[k].2.1 : Int), .string ms[k].2.2]] u fun e w' => e = .returned (.int .i64 E) ∧ Below u.heap.size u w') := Lib.hid (fun u hu => by rw [hE]; exact mCheck_any ms[k].1 ms[k].2.1 ms[k].2.2 u hu)
      have HD := Lib.hid (And.intro d0 (And.intro d1 d2))
      clear hcon hc eg h1 h2 hm d0 d1 d2 hE
      go_enter Tryz.func40, Tryz.ntmps40
      go_wp2_with (go_at_call 61; refine HC.out.mono ?_; rintro e w1 ⟨rfl, q1⟩; refine Hid.out ?_)
      refine Lib.hid ?_
      obtain ⟨d0, d1, d2⟩ := HD.out
      rw [← q1.cell (p := ⟨mb, mo + k * 3, none⟩) hmb] at d0
      rw [← q1.cell (p := ⟨mb, mo + k * 3 + 1, none⟩) hmb] at d1
      rw [← q1.cell (p := ⟨mb, mo + k * 3 + 2, none⟩) hmb] at d2
      have HK1 := Lib.hid (HK.out w1 (htab.on q1 htl))
      generalize ms[k].1 = n at *
      generalize ms[k].2.1 = o at *
      generalize ms[k].2.2 = v at *
      clear HK HD HC
      go_wp2_with (go_at_call 63; refine HK1.out.mono ?_; rintro e w2 ⟨rfl, q2⟩)
      go_ret
      exact ⟨rfl, q1.trans (q2.mono q1.size)⟩

end Go.Proofs.YtfllfmdopfeecabGreatDoor
