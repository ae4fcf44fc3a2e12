/-
  An alert of one label; the closed case of every statement of layer 8; whether alerts are few and small.
-/
import Derived.Test.YtdnpfmmkglgnjaaDoorG4
import Derived.Test.YtdnpfmmkglgnjaaDoorG5
namespace Go.Proofs.YtdnpfmmkglgnjaaDoor
open Go.RowKit

theorem cellG {w : World} {b j : Nat} {cs : Array Value} {t : TypeId} {fr : Nat × Nat} (h : w.heap[b]? = some (.cells cs t fr)) : w.cell? ⟨b, j, none⟩ = cs[j]? := by simp [World.cell?, h]

/-- The labels of the closed case. -/
def psA (v : ByteArray) : List Pr := [(⟨#[97]⟩, v)]

set_option maxHeartbeats 1000000 in
theorem gwOne_any (v : ByteArray) (w : World) :
    Calls Tryd.prog 23 #[.string v] w fun r w' => r = .returned (.agg #[.slice (some ⟨w.heap.size + 1, 0, none⟩) 1 1, .int .i64 1, .int .i64 5]) ∧ PairsAt w' (some ⟨w.heap.size + 1, 0, none⟩) (psA v) ∧ Below w.heap.size w w' := by
  have d1 := (Below.refl w.heap.size w).alloc (Nat.le_refl _) (.cells #[.slice (some ⟨w.heap.size + 1, 0, none⟩) 1 1, .int .i64 1, .int .i64 5] 34)
  have d2 := d1.alloc (by simp) (.cells #[.string ⟨#[97]⟩, .string v] 41)
  have s1 : (w.alloc (.cells #[.slice (some ⟨w.heap.size + 1, 0, none⟩) 1 1, .int .i64 1, .int .i64 5] 34)).heap.size = w.heap.size + 1 := by simp
  have c2 := heap_alloc_new (w.alloc (.cells #[.slice (some ⟨w.heap.size + 1, 0, none⟩) 1 1, .int .i64 1, .int .i64 5] 34)) (.cells #[.string ⟨#[97]⟩, .string v] 41)
  rw [s1] at c2
  have hP : PairsAt ((w.alloc (.cells #[.slice (some ⟨w.heap.size + 1, 0, none⟩) 1 1, .int .i64 1, .int .i64 5] 34)).alloc (.cells #[.string ⟨#[97]⟩, .string v] 41)) (some ⟨w.heap.size + 1, 0, none⟩) (psA v) := fun _ => ⟨_, 0, rfl, fun i hi => by
    obtain rfl : i = 0 := by have : i < 1 := hi; omega
    exact ⟨cellG c2, cellG c2⟩⟩
  have HH := Lib.hid (And.intro hP d2)
  clear d1 d2 s1 c2 hP
  go_enter Tryd.func23, Tryd.ntmps23
  go_wp2
  exact bodyPost_ret (v := .agg #[.slice (some ⟨w.heap.size + 1, 0, none⟩) 1 1, .int .i64 1, .int .i64 5]) (by simp [results, Tryd.results23, go_sem]) rfl ⟨rfl, HH.out⟩

theorem one_counts : countsP [108, 56, 58, 108, 49, 58, 97, 49, 58, 49, 101, 105, 49, 101, 101] = (1, 0) := by decide +kernel
theorem one_key : gKeyL 2 (psA ⟨#[49]⟩) = [108, 105, 50, 101, 49, 58, 97, 49, 58, 49, 101] := by decide +kernel
theorem one_rev (a : Option Addr) (c : Nat) : revL [⟨psA ⟨#[49]⟩, 1, 5, a, c⟩] 1 = [108, 56, 58, 108, 49, 58, 97, 49, 58, 49, 101, 105, 49, 101, 101] := by
  have e : revL [⟨psA ⟨#[49]⟩, 1, 5, a, c⟩] 1 = putList ([putText (keyL (psA ⟨#[49]⟩)), putInt 1]) := rfl
  rw [e]
  decide +kernel
theorem psA_light (v : ByteArray) (a : Option Addr) (c : Nat) (hv : v.size ≤ 100) : RwLight ⟨psA v, 1, 5, a, c⟩ := ⟨by simp [psA], fun p hp => by
  have : p = (⟨#[97]⟩, v) := by simpa [psA] using hp
  subst this
  exact ⟨show (1 : Nat) ≤ 100 by omega, hv⟩⟩
theorem psA_sz : ∀ p ∈ psA ⟨#[49]⟩, p.1.size ≤ 1048576 ∧ p.2.size ≤ 1048576 := fun p hp => by
  have : p = (⟨#[97]⟩, ⟨#[49]⟩) := by simpa [psA] using hp
  subst this
  exact ⟨by decide, by decide⟩

theorem field_labels (a : Option Addr) (n c : Nat) (s e : Int) (W : World) : (Instr.field 34 (.agg #[.slice a n c, .int .i64 s, .int .i64 e]) 0).run Tryd.prog W = .ok (.slice a n c) W := by kernel_rfl

set_option maxHeartbeats 2000000 in
set_option maxRecDepth 100000 in
theorem gawake_any (B : Nat) (w : World) (hB : B ≤ w.heap.size) (hv : VarsOk B w) : Calls Tryd.prog 9 #[] w fun e w' => e = .returned (.bool true) ∧ Below w.heap.size w w' := by
  have HC := gCounts_any ⟨#[108, 56, 58, 108, 49, 58, 97, 49, 58, 49, 101, 105, 49, 101, 101]⟩ B w (by decide) hB hv
  have ec : countsP (⟨#[108, 56, 58, 108, 49, 58, 97, 49, 58, 49, 101, 105, 49, 101, 101]⟩ : ByteArray).data.toList = (1, 0) := one_counts
  rw [ec] at HC
  have HCq := Lib.hid HC
  clear ec HC
  go_enter Tryd.func9, Tryd.ntmps9
  go_wp2_with (go_at_call 11; refine HCq.out.mono ?_; rintro e w1 ⟨rfl, hb1⟩; refine Hid.out ?_)
  refine Lib.hid ?_
  have hs1 := hb1.size
  clear HCq
  have HO := Lib.hid (gwOne_any ⟨#[49]⟩ w1)
  go_wp2_with (go_at_call 23; refine HO.out.mono ?_; rintro e w2 ⟨rfl, hp2, hb2⟩; refine Hid.out ?_)
  refine Lib.hid ?_
  have hs2 := hb2.size
  have d2 := hb1.trans (hb2.mono hs1)
  have HK := gKey_any 2 (by omega) (by omega) _ 1 (psA ⟨#[49]⟩) B w2 hp2 (by simp [psA]) psA_sz (by decide +kernel) (by omega) (hv.on (d2.mono hB)) 1 rfl
  rw [one_key] at HK
  have HKq := Lib.hid HK
  have hfd := field_labels (some ⟨w1.heap.size + 1, 0, none⟩) 1 1 1 5
  clear HO hp2 HK
  go_wp2_with (go_at_call 7; refine HKq.out.mono ?_; rintro e w3 ⟨rfl, hb3⟩; refine Hid.out ?_)
  refine Lib.hid ?_
  have hs3 := hb3.size
  have d3 := d2.trans (hb3.mono (by omega))
  clear HKq hfd
  have HO := Lib.hid (gwOne_any ⟨#[49]⟩ w3)
  have hkey : ((⟨[108, 105, 50, 101, 49, 58, 97, 49, 58, 49, 101].toArray⟩ : ByteArray) == ⟨#[108, 105, 50, 101, 49, 58, 97, 49, 58, 49, 101]⟩) = true := by decide
  go_wp2_with (go_at_call 23; refine HO.out.mono ?_; rintro e w4 ⟨rfl, hp4, hb4⟩; refine Hid.out ?_)
  refine Lib.hid ?_
  have hs4 := hb4.size
  have d4 := d3.trans (hb4.mono (by omega))
  have hA : AlsAt (w4.alloc (.cells #[.slice (some ⟨w3.heap.size + 1, 0, none⟩) 1 1, .int .i64 1, .int .i64 5] 34)) (some ⟨w4.heap.size, 0, none⟩) [⟨psA ⟨#[49]⟩, 1, 5, some ⟨w3.heap.size + 1, 0, none⟩, 1⟩] := fun _ => by
    have c2 := heap_alloc_new w4 (.cells #[.slice (some ⟨w3.heap.size + 1, 0, none⟩) 1 1, .int .i64 1, .int .i64 5] 34)
    refine ⟨_, 0, rfl, by simp, fun i hi => ?_⟩
    obtain rfl : i = 0 := by simpa using hi
    exact ⟨cellG c2, cellG c2, cellG c2, hp4.below ((Below.refl _ _).alloc (Nat.le_refl _) _) (Nat.le_refl _)⟩
  have d5 : Below w.heap.size w (w4.alloc (.cells #[.slice (some ⟨w3.heap.size + 1, 0, none⟩) 1 1, .int .i64 1, .int .i64 5] 34)) := d4.alloc (by omega) _
  have HR := gRevision_any _ 1 _ 1 B _ hA (by simp) (fun r hr => by
    obtain rfl : r = _ := by simpa using hr
    exact psA_light _ _ _ (by decide)) (by simp; omega) (hv.on (d5.mono hB)) 1 rfl
  rw [one_rev] at HR
  have HRq := Lib.hid HR
  clear HR
  have hs5 : (w4.alloc (.cells #[.slice (some ⟨w3.heap.size + 1, 0, none⟩) 1 1, .int .i64 1, .int .i64 5] 34)).heap.size = w4.heap.size + 1 := by simp
  have HD := Lib.hid (And.intro d5 hs5)
  clear HO hp4 hA d5 hs5
  go_wp2_with (go_at_call 13; refine HRq.out.mono ?_; rintro e w6 ⟨rfl, hb6⟩; refine Hid.out ?_)
  refine Lib.hid ?_
  have HB := Lib.hid (HD.out.1.trans (hb6.mono (by have := HD.out.2; have := HD.out.1.size; omega)))
  clear HRq HD hb6
  go_wp2
  go_ret
  exact ⟨rfl, HB.out⟩

def pairB (p : Pr) : Bool := decide (p.2.size ≤ 100) && decide (p.1.size ≤ 100)
def rwB (r : Rw) : Bool := decide (r.ps.length ≤ 10) && r.ps.all pairB
/-- Whether alerts are few and small. -/
def lightB (L : List Rw) (most : Int) : Bool := decide ((L.length : Int) ≤ most) && L.all rwB
theorem lightB_yes {L : List Rw} {most : Int} (h : lightB L most = true) : (L.length : Int) ≤ most ∧ ∀ r ∈ L, RwLight r := by
  simp only [lightB, rwB, pairB, Bool.and_eq_true, decide_eq_true_eq, List.all_eq_true] at h
  exact ⟨h.1, fun r hr => ⟨(h.2 r hr).1, fun p hp => ⟨((h.2 r hr).2 p hp).2, ((h.2 r hr).2 p hp).1⟩⟩⟩
theorem all_take {α : Type} (p : α → Bool) (l : List α) (k : Nat) (hk : k < l.length) (h : (l.take k).all p = true) (hp : p l[k] = true) : (l.take (k + 1)).all p = true := by
  rw [List.take_succ_eq_append_getElem hk, List.all_append, h]
  simp [hp]
theorem all_not {α : Type} (p : α → Bool) (l : List α) (k : Nat) (hk : k < l.length) (hp : p l[k] = false) : l.all p = false := by
  rw [List.all_eq_false]
  exact ⟨l[k], List.getElem_mem hk, by rw [hp]; simp⟩

set_option maxHeartbeats 2000000 in
set_option maxRecDepth 100000 in
theorem hLight_any (a : Option Addr) (c : Nat) (L : List Rw) (most : Int) (w : World) (h : AlsAt w a L) (hl : L.length ≤ 9223372036854775807) (hz : ∀ r ∈ L, r.ps.length ≤ 9223372036854775807 ∧ ∀ p ∈ r.ps, p.1.size ≤ 9223372036854775807 ∧ p.2.size ≤ 9223372036854775807) (n : Nat) (hn : n = L.length) :
    Calls Tryd.prog 10 #[.slice a n c, .int .i64 most] w fun e w' => e = .returned (.bool (lightB L most)) ∧ w' = w := by
  by_cases hm : most < (n : Int)
  · have HE : Hid (lightB L most = false) := Lib.hid (by unfold lightB; rw [decide_eq_false (by omega)]; rfl)
    go_enter Tryd.func10, Tryd.ntmps10
    go_wp2
    go_ret
    exact ⟨by rw [HE.out]; rfl, rfl⟩
  · have HY : Hid (L.all rwB = true → lightB L most = true) := Lib.hid fun h => by unfold lightB; rw [decide_eq_true (by omega), h]; rfl
    have HNo : Hid (L.all rwB = false → lightB L most = false) := Lib.hid fun h => by unfold lightB; rw [h, Bool.and_false]
    have HA := Lib.hid h
    have HZ := Lib.hid hz
    have hnL : L.length ≤ n ∧ n ≤ L.length := by omega
    have HN := Lib.hid hn
    clear h hn hz
    generalize lightB L most = R at *
    go_enter Tryd.func10, Tryd.ntmps10
    go_wp2
    go_loop [5] (fun i => ∃ k : Nat, k ≤ n ∧ i = .int .i64 k ∧ Hid ((L.take k).all rwB = true)) (fun i => n - (intOf i).toNat)
    case atStart => exact ⟨0, Nat.zero_le _, rfl, Lib.hid (by simp)⟩
    case round =>
      obtain ⟨k, hk, rfl, HP⟩ := hrel
      by_cases hlt : k < n
      · have hkl : (k : Int) < (n : Int) := by omega
        have hkL : k < L.length := by omega
        obtain ⟨b, o, rfl, hbl, hc⟩ := HA.out (by omega)
        obtain ⟨hc1, -, -, hpa⟩ := hc k hkL
        obtain ⟨hz1, hz2⟩ := HZ.out L[k] (List.getElem_mem _)
        have HST : Hid (rwB L[k] = true → (L.take (k + 1)).all rwB = true) := Lib.hid fun h => all_take _ _ _ hkL HP.out h
        have HSN : Hid (rwB L[k] = false → R = false) := Lib.hid fun h => HNo.out (all_not _ _ _ hkL h)
        have HU : Hid (rwB L[k] = (decide (L[k].ps.length ≤ 10) && L[k].ps.all pairB)) := Lib.hid rfl
        have HPA := Lib.hid (And.intro hpa hz2)
        clear hc hpa hz2 HP
        generalize rwB L[k] = Q at *
        generalize L[k] = r0 at *
        by_cases h10 : 10 < r0.ps.length
        · have h10z : (10 : Int) < (r0.ps.length : Int) := by omega
          have HR := Lib.hid (HSN.out (by rw [HU.out, decide_eq_false (by omega)]; rfl))
          clear HST HSN HU HPA HY HNo
          go_wp2
          go_ret
          exact ⟨by rw [HR.out]; rfl, rfl⟩
        · have h10z : ¬ (10 : Int) < (r0.ps.length : Int) := by omega
          have HU1 : Hid (r0.ps.all pairB = true → (L.take (k + 1)).all rwB = true) := Lib.hid fun h => HST.out (by rw [HU.out, h, decide_eq_true (by omega)]; rfl)
          have HU2 : Hid (r0.ps.all pairB = false → R = false) := Lib.hid fun h => HSN.out (by rw [HU.out, h, Bool.and_false])
          clear HST HSN HU
          go_wp2
          go_loop [6] (fun i => ∃ m : Nat, m ≤ r0.ps.length ∧ i = .int .i64 m ∧ Hid ((r0.ps.take m).all pairB = true)) (fun i => r0.ps.length - (intOf i).toNat)
          case atStart => exact ⟨0, Nat.zero_le _, rfl, Lib.hid (by simp)⟩
          case round =>
            obtain ⟨m, hmk, rfl, HM⟩ := hrel
            by_cases hmt : m < r0.ps.length
            · have hml : (m : Int) < (r0.ps.length : Int) := by omega
              obtain ⟨hpa, hz2⟩ := HPA.out
              obtain ⟨pb, po, hpo, hpc⟩ := hpa (by omega)
              obtain ⟨hp1, hp2⟩ := hpc m hmt
              obtain ⟨hs1, hs2⟩ := hz2 r0.ps[m] (List.getElem_mem _)
              have HV1 : Hid (pairB r0.ps[m] = true → (r0.ps.take (m + 1)).all pairB = true) := Lib.hid fun h => all_take _ _ _ hmt HM.out h
              have HV2 : Hid (pairB r0.ps[m] = false → R = false) := Lib.hid fun h => HU2.out (all_not _ _ _ hmt h)
              have HVU : Hid (pairB r0.ps[m] = (decide (r0.ps[m].2.size ≤ 100) && decide (r0.ps[m].1.size ≤ 100))) := Lib.hid rfl
              rw [hpo] at hc1
              clear hpa hz2 hpc HM HU2 HU1 hpo
              generalize pairB r0.ps[m] = V at *
              generalize r0.ps[m].1 = s1 at *
              generalize r0.ps[m].2 = s2 at *
              by_cases hv : 100 < s2.size
              · have hvz : (100 : Int) < (s2.size : Int) := by omega
                have HR := Lib.hid (HV2.out (by rw [HVU.out, decide_eq_false (by omega)]; rfl))
                clear HV1 HV2 HVU HY HNo HPA
                go_wp2
                go_ret
                exact ⟨by rw [HR.out]; rfl, rfl⟩
              · have hvz : ¬ (100 : Int) < (s2.size : Int) := by omega
                by_cases hw : 100 < s1.size
                · have hwz : (100 : Int) < (s1.size : Int) := by omega
                  have HR := Lib.hid (HV2.out (by rw [HVU.out, decide_eq_true (show s2.size ≤ 100 by omega), decide_eq_false (by omega)]; rfl))
                  clear HV1 HV2 HVU HY HNo HPA
                  go_wp2
                  go_ret
                  exact ⟨by rw [HR.out]; rfl, rfl⟩
                · have hwz : ¬ (100 : Int) < (s1.size : Int) := by omega
                  have HR := Lib.hid (HV1.out (by rw [HVU.out, decide_eq_true (show s2.size ≤ 100 by omega), decide_eq_true (show s1.size ≤ 100 by omega)]; rfl))
                  clear HV1 HV2 HVU HPA
                  go_wp2
                  go_round
                  case rel => exact ⟨m + 1, by omega, by go_num, HR⟩
                  case measure => simp [intOf]; omega
            · obtain rfl : m = r0.ps.length := by omega
              have HR := Lib.hid (HU1.out (by have := HM.out; rwa [List.take_length] at this))
              clear HM HU1 HU2 HPA
              go_wp2
              go_round
              case rel => exact ⟨k + 1, by omega, by go_num, HR⟩
              case measure => simp [intOf]; omega
      · obtain rfl : k = n := by omega
        have HR := Lib.hid (HY.out (by have := HP.out; rwa [List.take_of_length_le (by omega)] at this))
        clear HP HY HNo
        go_wp2
        go_ret
        exact ⟨by rw [HR.out]; rfl, rfl⟩

end Go.Proofs.YtdnpfmmkglgnjaaDoor
