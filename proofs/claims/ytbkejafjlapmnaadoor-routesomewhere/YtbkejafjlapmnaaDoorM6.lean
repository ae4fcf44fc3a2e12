/-
  The reference's Check; CheckAll of the program and of the reference.
-/
import Derived.Test.YtbkejafjlapmnaaDoorM5
import Derived.Test.YtbkejafjlapmnaaDoorLRef1
import Derived.Test.YtbkejafjlapmnaaDoorXPr
namespace Go.Proofs.YtbkejafjlapmnaaDoor
open Go.RowKit Go.Shelf

set_option maxRecDepth 20000 in
set_option maxHeartbeats 2000000 in
theorem nCheck_any (n : ByteArray) (o : Nat) (v : ByteArray) (w : World) (hn : n.size ≤ 9223372036854775807) :
    Calls Tryd.prog 35 #[.agg #[.string n, .int .u8 (o : Int), .string v]] w fun e w' => e = .returned (.int .i64 (mErr (n, o, v))) ∧ Below w.heap.size w w' := by
  have HN := Lib.hid (fun u => refName_any n u hn)
  have kz := zero_tree
  have kn := treeC_size
  have hA := Lib.hid (fun (o : Obj) => (Below.refl w.heap.size w).alloc (Nat.le_refl _) o)
  unfold mErr
  by_cases h1 : NameOk n
  · rw [decide_eq_true h1] at HN
    rw [if_neg (Classical.not_not.2 h1)]
    clear h1
    by_cases h2 : 3 < o
    · rw [if_pos h2]
      have h2' : (3 : Int) < (o : Int) := by omega
      clear h2
      go_enter Tryd.func35, Tryd.ntmps35
      go_wp2_with (go_at_call 68; refine (HN.out _).mono ?_; rintro e w1 ⟨rfl, rfl⟩)
      go_ret
      exact ⟨rfl, hA.out _⟩
    · rw [if_neg h2]
      have h2' : ¬ (3 : Int) < (o : Int) := by omega
      by_cases h3 : 64 < v.size
      · rw [if_pos h3]
        have h3' : (64 : Int) < (v.size : Int) := by omega
        clear h2 h3
        go_enter Tryd.func35, Tryd.ntmps35
        go_wp2_with (go_at_call 68; refine (HN.out _).mono ?_; rintro e w1 ⟨rfl, rfl⟩)
        go_ret
        exact ⟨rfl, hA.out _⟩
      · rw [if_neg h3]
        have h3' : ¬ (64 : Int) < (v.size : Int) := by omega
        by_cases h4 : 2 ≤ o
        · rw [if_pos h4]
          have hPE : ∀ u, Calls Tryd.prog 69 #[.string v] u fun e w' => (∃ t, e = .returned (.tuple #[.agg (treeC t), .int .i64 (errE v.data.toList)])) ∧ Below u.heap.size u w' := fun u => by
            by_cases h5 : errE v.data.toList = 0
            · rw [h5]
              obtain ⟨h6, A, hA⟩ := errE_zero h5
              exact (eParse_ok v u (by omega) A hA).mono fun e w' ⟨⟨t, ht, _⟩, hb⟩ => ⟨⟨t, ht⟩, hb⟩
            · exact eParse_err v u h5
          have HP := Lib.hid hPE
          generalize errE v.data.toList = E at *
          clear hPE
          rcases (by omega : o = 2 ∨ o = 3) with rfl | rfl
          all_goals
            clear h4 h3 h2
            go_enter Tryd.func35, Tryd.ntmps35
            go_wp2_with (first | (go_at_call 68; refine (HN.out _).mono ?_; rintro e w1 ⟨rfl, rfl⟩) | (go_at_call 69; refine (HP.out _).mono ?_; rintro e w1 ⟨⟨t, rfl⟩, hb1⟩; refine Hid.out ?_))
            refine Lib.hid ?_
            have ks0 := store_last w1 w1.heap.size rfl (noT 0) t
            have hb2 := ((hA.out _).trans (hb1.mono (by simp))).alloc (Nat.le_trans (hA.out _).size hb1.size) (.cells (treeC t) 108)
            go_wp2
            go_ret
            exact ⟨rfl, hb2⟩
        · rw [if_neg h4]
          rcases (by omega : o = 0 ∨ o = 1) with rfl | rfl
          all_goals
            clear h4 h3 h2
            go_enter Tryd.func35, Tryd.ntmps35
            go_wp2_with (go_at_call 68; refine (HN.out _).mono ?_; rintro e w1 ⟨rfl, rfl⟩)
            go_ret
            exact ⟨rfl, hA.out _⟩
  · rw [decide_eq_false h1] at HN
    rw [if_pos h1]
    clear h1
    go_enter Tryd.func35, Tryd.ntmps35
    go_wp2_with (go_at_call 68; refine (HN.out _).mono ?_; rintro e w1 ⟨rfl, rfl⟩)
    go_ret
    exact ⟨rfl, hA.out _⟩

/-- The first error of matchers. -/
def allE : List Mt → Int
  | [] => 0
  | m :: r => if mErr m ≠ 0 then mErr m else allE r
def checkAllE (ms : List Mt) : Int := if 8 < ms.length then 5 else allE ms
theorem allE_none : ∀ {ms : List Mt}, (∀ m ∈ ms, mErr m = 0) → allE ms = 0
  | [], _ => rfl
  | m :: r, h => by
    unfold allE
    rw [if_neg (by simpa using h m (by simp))]
    exact allE_none fun x hx => h x (by simp [hx])
theorem allE_hit : ∀ {ms : List Mt} {k : Nat} (hk : k < ms.length), (∀ j (_ : j < k) (hj : j < ms.length), mErr ms[j] = 0) → mErr ms[k] ≠ 0 → allE ms = mErr ms[k]
  | m :: r, 0, _, _, h => by
    unfold allE
    exact if_pos h
  | m :: r, k + 1, hk, hz, h => by
    unfold allE
    have h0 : mErr m = 0 := hz 0 (by omega) (by simp)
    rw [if_neg (by simpa using h0)]
    exact allE_hit (k := k) (by simpa using hk) (fun j hj hl => hz (j + 1) (by omega) (by simpa using hl)) h
/-- All may be, or there is a first one that may not. -/
theorem first_bad (ms : List Mt) : (∀ m ∈ ms, mErr m = 0) ∨ ∃ k, ∃ hk : k < ms.length, (∀ j (_ : j < k) (hj : j < ms.length), mErr ms[j] = 0) ∧ mErr ms[k] ≠ 0 := by
  induction ms with
  | nil => left; intro m hm; cases hm
  | cons m r ih =>
    by_cases h : mErr m = 0
    · rcases ih with ih | ⟨k, hk, h1, h2⟩
      · left; intro x hx; rcases List.mem_cons.1 hx with rfl | hx
        · exact h
        · exact ih x hx
      · right
        refine ⟨k + 1, by simpa using hk, fun j hj hl => ?_, h2⟩
        cases j with
        | zero => exact h
        | succ j => exact h1 j (by omega) (by simpa using hl)
    · right
      exact ⟨0, by simp, fun j hj => absurd hj (Nat.not_lt_zero _), h⟩

set_option maxHeartbeats 1000000 in
theorem bad_any (w : World) (htab : TabW w) : PredBelow Tryd.prog 92 #[] (fun x => .agg (encM x).toArray) (fun x => mErr x != 0) w := fun W x hb => by
  obtain ⟨n, o, v⟩ := x
  have hA := hb.alloc hb.size (.cells #[.string n, .int .u8 (o : Int), .string v] 24)
  have HC := Lib.hid (mCheck_any n o v _ (htab.on hA htab.lt))
  show Calls Tryd.prog 92 #[.agg #[.string n, .int .u8 (o : Int), .string v]] W fun e w' => e = .returned (.bool (mErr (n, o, v) != 0)) ∧ Below w.heap.size w w'
  generalize mErr (n, o, v) = E at *
  go_enter Tryd.func92, Tryd.ntmps92
  go_wp2_with (go_at_call 15; refine HC.out.mono ?_; rintro e w1 ⟨rfl, q1⟩)
  go_ret
  exact ⟨rfl, hA.trans (q1.mono hA.size)⟩

set_option maxRecDepth 20000 in
set_option maxHeartbeats 2000000 in
theorem mCheckAll_any (a : Option Addr) (c : Nat) (ms : List Mt) (w : World) (htab : TabW w) (hm : MtsAt w a ms) (hml : ms.length ≤ 9223372036854775807) :
    Calls Tryd.prog 74 #[.slice a ms.length c] w fun e w' => e = .returned (.int .i64 (checkAllE ms)) ∧ Below w.heap.size w w' := by
  unfold checkAllE
  have htl := htab.lt
  by_cases h8 : 8 < ms.length
  · have h8' : (8 : Int) < (ms.length : Int) := by omega
    rw [if_pos h8]
    clear h8
    go_enter Tryd.func74, Tryd.ntmps74
    go_wp2
    go_ret
    exact ⟨rfl, Below.refl _ _⟩
  have h8' : ¬ (8 : Int) < (ms.length : Int) := by omega
  rw [if_neg h8]
  by_cases h0 : ms.length = 0
  · have hms : ms = [] := List.eq_nil_of_length_eq_zero h0
    subst hms
    have HN := Lib.hid (fun fv u => idx_none a c fv u)
    clear h0 h8 h8'
    show Calls Tryd.prog 74 #[.slice a 0 c] w fun e w' => e = .returned (.int .i64 0) ∧ Below w.heap.size w w'
    go_enter Tryd.func74, Tryd.ntmps74
    go_wp2_with (go_at_call 81; refine (HN.out _ _).mono ?_; rintro e w1 ⟨rfl, rfl⟩)
    go_ret
    exact ⟨rfl, Below.refl _ _⟩
  · obtain ⟨mb, mo, rfl, hmb, hc⟩ := hm (by omega)
    have eg : ∀ args w, (callFunc 92 args).run Tryd.prog w = .ok (.enter 92 args) w := enters_of Tryd.func92 (by kernel_rfl) rfl
    have hcon := AnyQ.slices_IndexFunc Tryd.lIdxFunc 3 Tryd.isAgg24 Tryd.sizeOf24 encM (fun _ => rfl) (fun x => mErr x != 0) 92 #[] eg mb mo ms.length c ms w (bad_any w htab) (Nat.le_refl _) hml hmb (MtsAt.cells hc)
    change Calls Tryd.prog 81 _ _ _ at hcon
    rcases first_bad ms with hall | ⟨k, hk, h1, h2⟩
    · rw [Lib.idxBy_miss (fun _ y => mErr y != 0) ms ms.length default (fun j hj => by rw [getElem!_pos ms j hj]; simp [hall _ (List.getElem_mem hj)])] at hcon
      rw [allE_none hall]
      have HC := Lib.hid hcon
      clear hcon hc eg hall hm
      go_enter Tryd.func74, Tryd.ntmps74
      go_wp2_with (go_at_call 81; refine HC.out.mono ?_; rintro e w1 ⟨rfl, q1⟩)
      go_ret
      exact ⟨rfl, q1⟩
    · rw [Lib.idxBy_hit (fun _ y => mErr y != 0) ms ms.length k default hk (Nat.le_refl _) (by rw [getElem!_pos ms k hk]; simpa using h2) (fun j hj => by rw [getElem!_pos ms j (by omega)]; simp [h1 j hj (by omega)])] at hcon
      rw [allE_hit hk h1 h2]
      obtain ⟨E, hE⟩ : ∃ E, E = mErr ms[k] := ⟨_, rfl⟩
      rw [← hE]
      have HC := Lib.hid hcon
      have hkl : (k : Int) < (ms.length : Int) := by omega
      have hk0 : ¬ (k : Int) < 0 := by omega
      obtain ⟨d0, d1, d2⟩ := hc k hk
      have HK : Hid (∀ u, TabW u → Calls Tryd.prog 15 #[.agg #[.string ms[k].1, .int .u8 (ms[k].2.1 : Int), .string ms[k].2.2]] u fun e w' => e = .returned (.int .i64 E) ∧ Below u.heap.size u w') := Lib.hid (fun u hu => by rw [hE]; exact mCheck_any ms[k].1 ms[k].2.1 ms[k].2.2 u hu)
      have HD := Lib.hid (And.intro d0 (And.intro d1 d2))
      clear hcon hc eg h1 h2 hm d0 d1 d2 hE
      go_enter Tryd.func74, Tryd.ntmps74
      go_wp2_with (go_at_call 81; refine HC.out.mono ?_; rintro e w1 ⟨rfl, q1⟩; refine Hid.out ?_)
      refine Lib.hid ?_
      obtain ⟨d0, d1, d2⟩ := HD.out
      rw [← q1.cell (p := ⟨mb, mo + k * 3, none⟩) hmb] at d0
      rw [← q1.cell (p := ⟨mb, mo + k * 3 + 1, none⟩) hmb] at d1
      rw [← q1.cell (p := ⟨mb, mo + k * 3 + 2, none⟩) hmb] at d2
      have HK1 := Lib.hid (HK.out w1 (htab.on q1 htl))
      generalize ms[k].1 = n at *
      generalize ms[k].2.1 = o at *
      generalize ms[k].2.2 = v at *
      clear HK HD HC
      go_wp2_with (go_at_call 15; refine HK1.out.mono ?_; rintro e w2 ⟨rfl, q2⟩)
      go_ret
      exact ⟨rfl, q1.trans (q2.mono q1.size)⟩

set_option maxRecDepth 20000 in
set_option maxHeartbeats 2000000 in
theorem nCheckAll_any (a : Option Addr) (c : Nat) (ms : List Mt) (w : World) (hm : MtsAt w a ms) (hml : ms.length ≤ 9223372036854775807) (hz : ∀ m ∈ ms, m.1.size ≤ 9223372036854775807) :
    Calls Tryd.prog 76 #[.slice a ms.length c] w fun e w' => e = .returned (.int .i64 (checkAllE ms)) ∧ Below w.heap.size w w' := by
  unfold checkAllE
  by_cases h8 : 8 < ms.length
  · have h8' : (8 : Int) < (ms.length : Int) := by omega
    rw [if_pos h8]
    clear h8
    go_enter Tryd.func76, Tryd.ntmps76
    go_wp2
    go_ret
    exact ⟨rfl, Below.refl _ _⟩
  have h8' : ¬ (8 : Int) < (ms.length : Int) := by omega
  rw [if_neg h8]
  obtain ⟨E, HE⟩ : ∃ E, Hid (allE ms = E) := ⟨_, Lib.hid rfl⟩
  rw [HE.out]
  go_enter Tryd.func76, Tryd.ntmps76
  go_wp2
  go_loopw [3] (fun i wr => ∃ k : Nat, k ≤ ms.length ∧ i = .int .i64 k ∧ Below w.heap.size w wr ∧ Hid (∀ j (_ : j < k) (hj : j < ms.length), mErr ms[j] = 0)) (fun i _ => ms.length - (intOf i).toNat)
  case atStart => exact ⟨0, Nat.zero_le _, rfl, Below.refl _ _, Lib.hid fun j hj => absurd hj (Nat.not_lt_zero _)⟩
  case round =>
    obtain ⟨k, hk, rfl, hb, HA⟩ := hrel
    by_cases hlt : k < ms.length
    · have hkl : (k : Int) < (ms.length : Int) := by omega
      obtain ⟨mb, mo, rfl, hmb, hc⟩ := hm (by omega)
      obtain ⟨d0, d1, d2⟩ := hc k hlt
      rw [← hb.cell (p := ⟨mb, mo + k * 3, none⟩) hmb] at d0
      rw [← hb.cell (p := ⟨mb, mo + k * 3 + 1, none⟩) hmb] at d1
      rw [← hb.cell (p := ⟨mb, mo + k * 3 + 2, none⟩) hmb] at d2
      have HK1 := Lib.hid (nCheck_any ms[k].1 ms[k].2.1 ms[k].2.2 wr (hz _ (List.getElem_mem hlt)))
      rw [show ((ms[k].1, ms[k].2.1, ms[k].2.2) : Mt) = ms[k] from rfl] at HK1
      clear hc hm hz
      by_cases he : mErr ms[k] = 0
      · have HA2 : Hid (∀ j (_ : j < k + 1) (hj : j < ms.length), mErr ms[j] = 0) := Lib.hid fun j hj hl => by
          by_cases e : j = k
          · subst e; exact he
          · exact HA.out j (by omega) hl
        rw [he] at HK1
        clear he HA
        generalize ms[k].1 = n at *
        generalize ms[k].2.1 = o at *
        generalize ms[k].2.2 = v at *
        go_wp2_with (go_at_call 35; refine HK1.out.mono ?_; rintro e w2 ⟨rfl, q2⟩)
        go_roundw
        case rel => exact ⟨k + 1, by omega, by go_num, hb.trans (q2.mono hb.size), HA2⟩
        case measure => simp [intOf]; omega
      · have HR := Lib.hid (allE_hit hlt HA.out he)
        have hne : ((mErr ms[k] : Int) != 0) = true := by simpa using he
        clear he HA
        rw [← HR.out, HE.out] at HK1 hne
        clear HR
        generalize ms[k].1 = n at *
        generalize ms[k].2.1 = o at *
        generalize ms[k].2.2 = v at *
        go_wp2_with (go_at_call 35; refine HK1.out.mono ?_; rintro e w2 ⟨rfl, q2⟩)
        go_ret
        exact ⟨rfl, hb.trans (q2.mono hb.size)⟩
    · obtain rfl : k = ms.length := by omega
      have HR : Hid (allE ms = 0) := Lib.hid (allE_none fun m hm => by
        obtain ⟨i, hi, rfl⟩ := List.getElem_of_mem hm
        exact HA.out i hi hi)
      clear HA
      obtain rfl : E = 0 := HE.out.symm.trans HR.out
      go_wp2
      go_ret
      exact ⟨rfl, hb⟩

end Go.Proofs.YtbkejafjlapmnaaDoor
