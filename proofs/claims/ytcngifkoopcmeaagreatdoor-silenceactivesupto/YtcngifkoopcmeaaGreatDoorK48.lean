/-
  The walk of SilenceActives: which silences are active, what they mute and which are one, is told as the document says.
-/
import Derived.Test.YtcngifkoopcmeaaGreatDoorK47
namespace Go.Proofs.YtcngifkoopcmeaaGreatDoor
open Go Go.RowKit

theorem active_short {l : List Ent} {now : Int} {s : Sil} (h : s ∈ activeL l now) : s.ms.length ≤ 1000 := by
  unfold activeL at h
  obtain ⟨x, -, hx⟩ := List.mem_filterMap.1 h
  unfold actOf at hx
  cases ho : ofS x with
  | none => rw [ho] at hx; cases hx
  | some s' =>
    rw [ho] at hx
    simp only [Option.bind_some] at hx
    split at hx
    · obtain rfl := Option.some.inj hx
      have := (silE_zero (entryE_zero (ofS_some.1 ho).1).1).2.1
      omega
    · cases hx
/-- What the law carries. -/
def ActsOk (W w' : World) (N : Nat) (now : Int) (ap : Option Addr) (m cp : Nat) : Prop := w'.cell? ⟨N, 0, none⟩ = some (.int .i64 now) ∧ w'.cell? ⟨N, 1, none⟩ = some (.slice ap m cp) ∧ Below W.heap.size W w' ∧ N < w'.heap.size
theorem ActsOk.on {W w' w2 : World} {N : Nat} {now : Int} {ap : Option Addr} {m cp : Nat} (h : ActsOk W w' N now ap m cp) (hb : Below w'.heap.size w' w2) : ActsOk W w2 N now ap m cp :=
  ⟨(hb.cell (p := ⟨N, 0, none⟩) h.2.2.2).trans h.1, (hb.cell (p := ⟨N, 1, none⟩) h.2.2.2).trans h.2.1, h.2.2.1.trans (hb.mono h.2.2.1.size), Nat.lt_of_lt_of_le h.2.2.2 hb.size⟩

set_option maxRecDepth 100000 in
set_option maxHeartbeats 16000000 in
theorem acts_a (aE : Option Addr) (cE : Nat) (l : List Ent) (aS : Option Addr) (cS : Nat) (L : List Sm) (now : Int) (ap : Option Addr) (cp : Nat) (ps : List Pr) (w : World) (htab : TabW w) (hv : VarsOk w.heap.size w) (hS : SilsAt w aS L) (hP : PairsAt w ap ps) (nE n m : Nat) (hnE : nE = l.length) (hn : n = L.length) (hm : m = ps.length) (hnb : n ≤ 9223372036854775807) (hmb : m ≤ 9223372036854775807) (h1 : 40 < nE) :
    Calls Tryz.prog 8 #[.slice aE nE cE, .slice aS n cS, .agg #[.int .i64 now, .slice ap m cp]] w fun e w' => e = .returned (.bool true) ∧ Below w.heap.size w w' := by
  have HA : Hid (∀ W, Below w.heap.size w W → Calls Tryz.prog 22 #[] W fun e w' => e = .returned (.bool true) ∧ Below W.heap.size W w') := Lib.hid (fun W hW => slawake_any w.heap.size W hW.size (hv.on hW) (htab.on hW htab.lt))
  have d1 := (Below.refl w.heap.size w).alloc (Nat.le_refl _) (.cells #[.int .i64 now, .slice ap m cp] 74)
  have n1 := newE w (.cells #[.int .i64 now, .slice ap m cp] 74)
  have k0 : (w.alloc (.cells #[.int .i64 now, .slice ap m cp] 74)).cell? ⟨w.heap.size, 0, none⟩ = some (.int .i64 now) := cellE n1
  have k1 : (w.alloc (.cells #[.int .i64 now, .slice ap m cp] 74)).cell? ⟨w.heap.size, 1, none⟩ = some (.slice ap m cp) := cellE n1
  have hok : ActsOk w (w.alloc (.cells #[.int .i64 now, .slice ap m cp] 74)) w.heap.size now ap m cp := ⟨k0, k1, d1, by simp⟩
  have HOK := Lib.hid hok
  have HL : Hid (∀ W, Below w.heap.size w W → Calls Tryz.prog 21 #[.slice aS n cS] W fun e w' => e = .returned (.bool (decide (LightS L))) ∧ w' = W) := Lib.hid (fun W hW => yLight_any aS cS L W (hS.below hW (Nat.le_refl _)) n hn hnb)
  have HP0 : Hid (∀ W, Below w.heap.size w W → Calls Tryz.prog 30 #[.slice none 0 0, .slice ap m cp] W fun e w' => e = .returned (.bool (decide (LightP 0 ps))) ∧ Below W.heap.size W w') := Lib.hid (fun W hW => by
    rw [hm]
    exact nLight_any none ap 0 0 cp ps W (hP.below hW (Nat.le_refl _)) (by omega) (by omega))
  have g1 : (40 : Int) < (nE : Int) := by omega
  clear htab hv hS hP hnE hn hm d1 n1 hok
  clear h1
  go_enter Tryz.func8, Tryz.ntmps8
  go_wp2_with (go_at_call 22; refine (HA.out _ HOK.out.2.2.1).mono ?_; rintro e u ⟨rfl, q⟩; replace q := Lib.hid q; refine Hid.out ?_)
  refine Lib.hid ?_
  go_wp2
  go_ret
  exact ⟨rfl, HOK.out.2.2.1.trans (q.out.mono HOK.out.2.2.1.size)⟩
set_option maxRecDepth 100000 in
set_option maxHeartbeats 16000000 in
theorem acts_b (aE : Option Addr) (cE : Nat) (l : List Ent) (aS : Option Addr) (cS : Nat) (L : List Sm) (now : Int) (ap : Option Addr) (cp : Nat) (ps : List Pr) (w : World) (htab : TabW w) (hv : VarsOk w.heap.size w) (hS : SilsAt w aS L) (hP : PairsAt w ap ps) (nE n m : Nat) (hnE : nE = l.length) (hn : n = L.length) (hm : m = ps.length) (hnb : n ≤ 9223372036854775807) (hmb : m ≤ 9223372036854775807) (h1 : ¬ 40 < nE) (h2 : ¬ LightS L) :
    Calls Tryz.prog 8 #[.slice aE nE cE, .slice aS n cS, .agg #[.int .i64 now, .slice ap m cp]] w fun e w' => e = .returned (.bool true) ∧ Below w.heap.size w w' := by
  have HA : Hid (∀ W, Below w.heap.size w W → Calls Tryz.prog 22 #[] W fun e w' => e = .returned (.bool true) ∧ Below W.heap.size W w') := Lib.hid (fun W hW => slawake_any w.heap.size W hW.size (hv.on hW) (htab.on hW htab.lt))
  have d1 := (Below.refl w.heap.size w).alloc (Nat.le_refl _) (.cells #[.int .i64 now, .slice ap m cp] 74)
  have n1 := newE w (.cells #[.int .i64 now, .slice ap m cp] 74)
  have k0 : (w.alloc (.cells #[.int .i64 now, .slice ap m cp] 74)).cell? ⟨w.heap.size, 0, none⟩ = some (.int .i64 now) := cellE n1
  have k1 : (w.alloc (.cells #[.int .i64 now, .slice ap m cp] 74)).cell? ⟨w.heap.size, 1, none⟩ = some (.slice ap m cp) := cellE n1
  have hok : ActsOk w (w.alloc (.cells #[.int .i64 now, .slice ap m cp] 74)) w.heap.size now ap m cp := ⟨k0, k1, d1, by simp⟩
  have HOK := Lib.hid hok
  have HL : Hid (∀ W, Below w.heap.size w W → Calls Tryz.prog 21 #[.slice aS n cS] W fun e w' => e = .returned (.bool (decide (LightS L))) ∧ w' = W) := Lib.hid (fun W hW => yLight_any aS cS L W (hS.below hW (Nat.le_refl _)) n hn hnb)
  have HP0 : Hid (∀ W, Below w.heap.size w W → Calls Tryz.prog 30 #[.slice none 0 0, .slice ap m cp] W fun e w' => e = .returned (.bool (decide (LightP 0 ps))) ∧ Below W.heap.size W w') := Lib.hid (fun W hW => by
    rw [hm]
    exact nLight_any none ap 0 0 cp ps W (hP.below hW (Nat.le_refl _)) (by omega) (by omega))
  have g1 : ¬ (40 : Int) < (nE : Int) := by omega
  rw [decide_eq_false h2] at HL
  clear htab hv hS hP hnE hn hm d1 n1 hok
  clear h1 h2
  go_enter Tryz.func8, Tryz.ntmps8
  go_wp2_with (go_at_call 21; refine (HL.out _ HOK.out.2.2.1).mono ?_; rintro e u0 ⟨rfl, hu⟩; replace hu := Lib.hid hu; refine Hid.out ?_)
  refine Lib.hid ?_
  obtain rfl := hu.out
  clear hu HL
  go_wp2_with (go_at_call 22; refine (HA.out _ HOK.out.2.2.1).mono ?_; rintro e u ⟨rfl, q⟩; replace q := Lib.hid q; refine Hid.out ?_)
  refine Lib.hid ?_
  go_wp2
  go_ret
  exact ⟨rfl, HOK.out.2.2.1.trans (q.out.mono HOK.out.2.2.1.size)⟩
set_option maxRecDepth 100000 in
set_option maxHeartbeats 16000000 in
theorem acts_c (aE : Option Addr) (cE : Nat) (l : List Ent) (aS : Option Addr) (cS : Nat) (L : List Sm) (now : Int) (ap : Option Addr) (cp : Nat) (ps : List Pr) (w : World) (htab : TabW w) (hv : VarsOk w.heap.size w) (hS : SilsAt w aS L) (hP : PairsAt w ap ps) (nE n m : Nat) (hnE : nE = l.length) (hn : n = L.length) (hm : m = ps.length) (hnb : n ≤ 9223372036854775807) (hmb : m ≤ 9223372036854775807) (h1 : ¬ 40 < nE) (h2 : LightS L) (h3 : ¬ LightP 0 ps) :
    Calls Tryz.prog 8 #[.slice aE nE cE, .slice aS n cS, .agg #[.int .i64 now, .slice ap m cp]] w fun e w' => e = .returned (.bool true) ∧ Below w.heap.size w w' := by
  have HA : Hid (∀ W, Below w.heap.size w W → Calls Tryz.prog 22 #[] W fun e w' => e = .returned (.bool true) ∧ Below W.heap.size W w') := Lib.hid (fun W hW => slawake_any w.heap.size W hW.size (hv.on hW) (htab.on hW htab.lt))
  have d1 := (Below.refl w.heap.size w).alloc (Nat.le_refl _) (.cells #[.int .i64 now, .slice ap m cp] 74)
  have n1 := newE w (.cells #[.int .i64 now, .slice ap m cp] 74)
  have k0 : (w.alloc (.cells #[.int .i64 now, .slice ap m cp] 74)).cell? ⟨w.heap.size, 0, none⟩ = some (.int .i64 now) := cellE n1
  have k1 : (w.alloc (.cells #[.int .i64 now, .slice ap m cp] 74)).cell? ⟨w.heap.size, 1, none⟩ = some (.slice ap m cp) := cellE n1
  have hok : ActsOk w (w.alloc (.cells #[.int .i64 now, .slice ap m cp] 74)) w.heap.size now ap m cp := ⟨k0, k1, d1, by simp⟩
  have HOK := Lib.hid hok
  have HL : Hid (∀ W, Below w.heap.size w W → Calls Tryz.prog 21 #[.slice aS n cS] W fun e w' => e = .returned (.bool (decide (LightS L))) ∧ w' = W) := Lib.hid (fun W hW => yLight_any aS cS L W (hS.below hW (Nat.le_refl _)) n hn hnb)
  have HP0 : Hid (∀ W, Below w.heap.size w W → Calls Tryz.prog 30 #[.slice none 0 0, .slice ap m cp] W fun e w' => e = .returned (.bool (decide (LightP 0 ps))) ∧ Below W.heap.size W w') := Lib.hid (fun W hW => by
    rw [hm]
    exact nLight_any none ap 0 0 cp ps W (hP.below hW (Nat.le_refl _)) (by omega) (by omega))
  have g1 : ¬ (40 : Int) < (nE : Int) := by omega
  rw [decide_eq_true h2] at HL
  rw [decide_eq_false h3] at HP0
  clear htab hv hS hP hnE hn hm d1 n1 hok
  clear h1 h2 h3
  go_enter Tryz.func8, Tryz.ntmps8
  go_wp2_with (go_at_call 21; refine (HL.out _ HOK.out.2.2.1).mono ?_; rintro e u0 ⟨rfl, hu⟩; replace hu := Lib.hid hu; refine Hid.out ?_)
  refine Lib.hid ?_
  obtain rfl := hu.out
  clear hu HL
  go_wp2_with (go_at_call 30; refine (HP0.out _ HOK.out.2.2.1).mono ?_; rintro e u1 ⟨rfl, q1⟩; refine Hid.out ?_)
  refine Lib.hid ?_
  replace HOK := Lib.hid (HOK.out.on q1)
  clear q1 HP0 k0 k1
  have k0 := HOK.out.1; have k1 := HOK.out.2.1
  go_wp2_with (go_at_call 22; refine (HA.out _ HOK.out.2.2.1).mono ?_; rintro e u ⟨rfl, q⟩; replace q := Lib.hid q; refine Hid.out ?_)
  refine Lib.hid ?_
  go_wp2
  go_ret
  exact ⟨rfl, HOK.out.2.2.1.trans (q.out.mono HOK.out.2.2.1.size)⟩
set_option maxRecDepth 100000 in
set_option maxHeartbeats 16000000 in
theorem acts_d (aE : Option Addr) (cE : Nat) (l : List Ent) (aS : Option Addr) (cS : Nat) (L : List Sm) (now : Int) (ap : Option Addr) (cp : Nat) (ps : List Pr) (w : World) (htab : TabW w) (hv : VarsOk w.heap.size w) (hE : EntsAt w aE l) (hsz : ∀ x ∈ l, x.v.size ≤ 1048576 ∧ x.k.size ≤ 1048576) (hS : SilsAt w aS L) (hml : ∀ x ∈ L, x.s.ms.length ≤ 9223372036854775807) (hnm : ∀ x ∈ L, ∀ m ∈ x.s.ms, m.1.size ≤ 9223372036854775807) (hP : PairsAt w ap ps) (nE n m : Nat) (hnE : nE = l.length) (hn : n = L.length) (hm : m = ps.length) (hnb : n ≤ 9223372036854775807) (hmb : m ≤ 9223372036854775807) (h1 : ¬ 40 < nE) (h2 : LightS L) (h3 : LightP 0 ps) :
    Calls Tryz.prog 8 #[.slice aE nE cE, .slice aS n cS, .agg #[.int .i64 now, .slice ap m cp]] w fun e w' => e = .returned (.bool true) ∧ Below w.heap.size w w' := by
  have HA : Hid (∀ W, Below w.heap.size w W → Calls Tryz.prog 22 #[] W fun e w' => e = .returned (.bool true) ∧ Below W.heap.size W w') := Lib.hid (fun W hW => slawake_any w.heap.size W hW.size (hv.on hW) (htab.on hW htab.lt))
  have d1 := (Below.refl w.heap.size w).alloc (Nat.le_refl _) (.cells #[.int .i64 now, .slice ap m cp] 74)
  have n1 := newE w (.cells #[.int .i64 now, .slice ap m cp] 74)
  have k0 : (w.alloc (.cells #[.int .i64 now, .slice ap m cp] 74)).cell? ⟨w.heap.size, 0, none⟩ = some (.int .i64 now) := cellE n1
  have k1 : (w.alloc (.cells #[.int .i64 now, .slice ap m cp] 74)).cell? ⟨w.heap.size, 1, none⟩ = some (.slice ap m cp) := cellE n1
  have hok : ActsOk w (w.alloc (.cells #[.int .i64 now, .slice ap m cp] 74)) w.heap.size now ap m cp := ⟨k0, k1, d1, by simp⟩
  have HOK := Lib.hid hok
  have HL : Hid (∀ W, Below w.heap.size w W → Calls Tryz.prog 21 #[.slice aS n cS] W fun e w' => e = .returned (.bool (decide (LightS L))) ∧ w' = W) := Lib.hid (fun W hW => yLight_any aS cS L W (hS.below hW (Nat.le_refl _)) n hn hnb)
  have HP0 : Hid (∀ W, Below w.heap.size w W → Calls Tryz.prog 30 #[.slice none 0 0, .slice ap m cp] W fun e w' => e = .returned (.bool (decide (LightP 0 ps))) ∧ Below W.heap.size W w') := Lib.hid (fun W hW => by
    rw [hm]
    exact nLight_any none ap 0 0 cp ps W (hP.below hW (Nat.le_refl _)) (by omega) (by omega))
  have g1 : ¬ (40 : Int) < (nE : Int) := by omega
  rw [decide_eq_true h2] at HL
  rw [decide_eq_true h3] at HP0
  obtain ⟨p, hp⟩ := asks_ex ps
  have hn40 : n ≤ 40 := by have := h2.1; omega
  have HSm : Hid (∀ u, Below w.heap.size w u → ∀ i j (hi : i < L.length) (hj : j < L.length), Calls Tryz.prog 31 #[.agg #[.string L[i].s.id, .slice L[i].ad L[i].s.ms.length L[i].cp, .int .i64 L[i].s.st, .int .i64 L[i].s.en], .agg #[.string L[j].s.id, .slice L[j].ad L[j].s.ms.length L[j].cp, .int .i64 L[j].s.st, .int .i64 L[j].s.en]] u fun e w' => Tells (OneS L[i].s L[j].s) e ∧ Below u.heap.size u w') := Lib.hid (fun u hu i j hi hj => by
    obtain ⟨b3, o3, -, -, hc⟩ := hS.below hu (Nat.le_refl _) (Nat.lt_of_le_of_lt (Nat.zero_le _) hi)
    exact sSame_tells L[i].s L[j].s _ _ _ _ u (hc i hi).2 (hc j hj).2 (by have := h2.2 i hi; omega) (by have := h2.2 j hj; omega) _ _ rfl rfl)
  have HYm : Hid (∀ u, Below w.heap.size w u → ∀ i j (hi : i < L.length) (hj : j < L.length), Calls Tryz.prog 29 #[.agg #[.string L[i].s.id, .slice L[i].ad L[i].s.ms.length L[i].cp, .int .i64 L[i].s.st, .int .i64 L[i].s.en], .agg #[.string L[j].s.id, .slice L[j].ad L[j].s.ms.length L[j].cp, .int .i64 L[j].s.st, .int .i64 L[j].s.en]] u fun e w' => Tells (OneS L[i].s L[j].s) e ∧ Below u.heap.size u w') := Lib.hid (fun u hu i j hi hj => by
    obtain ⟨b3, o3, -, -, hc⟩ := hS.below hu (Nat.le_refl _) (Nat.lt_of_le_of_lt (Nat.zero_le _) hi)
    exact ySame_tells L[i].s L[j].s _ _ _ _ u (hc i hi).2 (hc j hj).2 (by have := h2.2 i hi; omega) (by have := h2.2 j hj; omega) _ _ rfl rfl)
  have HAc : Hid (∀ u, Below w.heap.size w u → Calls Tryz.prog 33 #[.slice aE nE cE, .int .i64 now] u (ActPost u l now)) := Lib.hid (fun u hu => sActive_any aE cE l now w.heap.size u hu.size (hv.on hu) (htab.on hu htab.lt) (hE.onS hu (Nat.le_refl _)) (fun x hx => (hsz x hx).1) nE hnE (by omega))
  have HAy : Hid (∀ u, Below w.heap.size w u → Calls Tryz.prog 34 #[.slice aE nE cE, .int .i64 now] u (ActPost u l now)) := Lib.hid (fun u hu => yActive_any aE cE l now u (hE.onS hu (Nat.le_refl _)) hsz nE hnE (by omega))
  have HMu : Hid (∀ u, Below w.heap.size w u → Calls Tryz.prog 35 #[.slice aS n cS, .slice ap m cp] u fun e w' => e = .returned (.bool (L.any p)) ∧ Below u.heap.size u w') := Lib.hid (fun u hu => sMutes_any aS cS L ap cp ps p hp u (htab.on hu htab.lt) (hS.below hu (Nat.le_refl _)) hml (hP.below hu (Nat.le_refl _)) (by omega) (fun q hq => by have := h3.2.2 q hq; omega) n hn (by omega) m hm)
  have HMy : Hid (∀ u, Below w.heap.size w u → Calls Tryz.prog 36 #[.slice aS n cS, .slice ap m cp] u fun e w' => e = .returned (.bool (L.any p)) ∧ Below u.heap.size u w') := Lib.hid (fun u hu => yMutes_any aS cS L ap cp ps p hp u (hS.below hu (Nat.le_refl _)) hml hnm (hP.below hu (Nat.le_refl _)) (by omega) (fun q hq => by have := h3.2.2 q hq; omega) n hn (by omega) m hm)
  have HX := Lib.hid (And.intro hS (And.intro hn (show l.length ≤ 40 by omega)))
  clear htab hv hE hsz hS hml hnm hP hnE hn hm d1 n1 hok
  clear h1 h2 h3 hp
  generalize L.any p = mu at *
  go_enter Tryz.func8, Tryz.ntmps8
  go_wp2_with (go_at_call 21; refine (HL.out _ HOK.out.2.2.1).mono ?_; rintro e u0 ⟨rfl, hu⟩; replace hu := Lib.hid hu; refine Hid.out ?_)
  refine Lib.hid ?_
  obtain rfl := hu.out
  clear hu HL
  go_wp2_with (go_at_call 30; refine (HP0.out _ HOK.out.2.2.1).mono ?_; rintro e u1 ⟨rfl, q1⟩; refine Hid.out ?_)
  refine Lib.hid ?_
  replace HOK := Lib.hid (HOK.out.on q1)
  clear q1 HP0 k0 k1
  have k0 := HOK.out.1; have k1 := HOK.out.2.1
  go_wp2
  go_loopw [7] (fun i wr => ∃ k : Nat, 1 ≤ k ∧ k ≤ n + 1 ∧ i = .int .i64 k ∧ Hid (ActsOk w wr w.heap.size now ap m cp)) (fun i _ => n + 1 - (intOf i).toNat)
  case atStart => exact ⟨1, Nat.le_refl _, by omega, rfl, HOK⟩
  case round =>
    obtain ⟨k, hk1, hk, rfl, HO⟩ := hrel
    clear k0 k1 HOK
    by_cases hlt : k < n
    · have hkl : (k : Int) < (n : Int) := by omega
      have HLT := Lib.hid hlt
      obtain ⟨j, hj⟩ : ∃ j, j + 1 = k := ⟨k - 1, by omega⟩
      have hj' : (k : Int) - 1 = (j : Int) := by omega
      have hkx : k < L.length := by have := HX.out.2.1; omega
      have hjx : j < L.length := by omega
      have hjn : j < n := by omega
      have hwj : IntKind.i64.wrap (j : Int) = (j : Int) := by rw [IntKind.wrap_i64]; omega
      have hjl : (j : Int) < (n : Int) := by omega
      obtain ⟨b1, o1, rfl, hb1, hcx⟩ := HX.out.1 (by omega)
      obtain ⟨⟨p0, p1, p2, p3⟩, -⟩ := hcx k hkx
      obtain ⟨⟨q0, q1, q2, q3⟩, -⟩ := hcx j hjx
      have hx : S4Y wr b1 (o1 + k * 4) L[k] := ⟨(HO.out.2.2.1.cell (p := ⟨b1, o1 + k * 4, none⟩) hb1).trans p0, (HO.out.2.2.1.cell (p := ⟨b1, o1 + k * 4 + 1, none⟩) hb1).trans p1, (HO.out.2.2.1.cell (p := ⟨b1, o1 + k * 4 + 2, none⟩) hb1).trans p2, (HO.out.2.2.1.cell (p := ⟨b1, o1 + k * 4 + 3, none⟩) hb1).trans p3⟩
      have hy : S4Y wr b1 (o1 + j * 4) L[j] := ⟨(HO.out.2.2.1.cell (p := ⟨b1, o1 + j * 4, none⟩) hb1).trans q0, (HO.out.2.2.1.cell (p := ⟨b1, o1 + j * 4 + 1, none⟩) hb1).trans q1, (HO.out.2.2.1.cell (p := ⟨b1, o1 + j * 4 + 2, none⟩) hb1).trans q2, (HO.out.2.2.1.cell (p := ⟨b1, o1 + j * 4 + 3, none⟩) hb1).trans q3⟩
      have HC1 : Hid (∀ u, Below w.heap.size w u → _) := Lib.hid (fun u hu => HSm.out u hu k j hkx hjx)
      have HC2 : Hid (∀ u, Below w.heap.size w u → _) := Lib.hid (fun u hu => HYm.out u hu k j hkx hjx)
      clear hcx p0 p1 p2 p3 q0 q1 q2 q3 hb1
      generalize L[k] = x at *
      generalize L[j] = y at *
      obtain ⟨⟨xi, xm, xs, xe⟩, xa, xc⟩ := x
      obtain ⟨⟨yi, ym, ys, ye⟩, ya, yc⟩ := y
      dsimp only at HC1 HC2
      clear hkx hjx hj
      go_wp2_with fail
      refine wp_region_any (by kernel_rfl) ?_
      change wpAny _ _ _ _ _ _ _ (World.drew _)
      have hS : (fun w' : World => S4Y w' b1 (o1 + k * 4) ⟨⟨xi, xm, xs, xe⟩, xa, xc⟩ ∧ S4Y w' b1 (o1 + j * 4) ⟨⟨yi, ym, ys, ye⟩, ya, yc⟩ ∧ ActsOk w w' w.heap.size now ap m cp) wr.drew := ⟨hx, hy, HO.out.on (Below.refl _ _).drew⟩
      refine wpAny_of_held (S := fun w' => S4Y w' b1 (o1 + k * 4) ⟨⟨xi, xm, xs, xe⟩, xa, xc⟩ ∧ S4Y w' b1 (o1 + j * 4) ⟨⟨yi, ym, ys, ye⟩, ya, yc⟩ ∧ ActsOk w w' w.heap.size now ap m cp) _ _ _ _ ?_
      clear hx hy
      refine wpAnyH_takeE (i := 0) (some 29) (v := ?_) rfl rfl (by as_aux_lemma => kernel_rfl) (by as_aux_lemma => kernel_rfl) (by as_aux_lemma => kernel_rfl) (fun _ _ _ h => h) (Or.inl ⟨by kernel_rfl, ?_⟩) hS ?_
      rotate_left
      · intro w hSw; have c0 := hSw.1.1; have c1 := hSw.1.2.1; have c2 := hSw.1.2.2.1; have c3 := hSw.1.2.2.2; dsimp only at c0 c1 c2 c3; go_simp
        first | done | with_reducible rfl
      refine wpAnyH_takeE (i := 1) (some 30) (v := ?_) rfl rfl (by as_aux_lemma => kernel_rfl) (by as_aux_lemma => kernel_rfl) (by as_aux_lemma => kernel_rfl) (fun _ _ _ h => h) (Or.inl ⟨by kernel_rfl, ?_⟩) hS ?_
      rotate_left
      · intro w hSw; have c0 := hSw.1.1; have c1 := hSw.1.2.1; have c2 := hSw.1.2.2.1; have c3 := hSw.1.2.2.2; dsimp only at c0 c1 c2 c3; go_simp
        first | done | with_reducible rfl
      refine wpAnyH_takeE (i := 2) (some 31) (v := ?_) rfl rfl (by as_aux_lemma => kernel_rfl) (by as_aux_lemma => kernel_rfl) (by as_aux_lemma => kernel_rfl) (fun _ _ _ h => h) (Or.inl ⟨by kernel_rfl, ?_⟩) hS ?_
      rotate_left
      · intro w hSw; have c0 := hSw.1.1; have c1 := hSw.1.2.1; have c2 := hSw.1.2.2.1; have c3 := hSw.1.2.2.2; dsimp only at c0 c1 c2 c3; go_simp
        first | done | with_reducible rfl
      refine wpAnyH_takeE (i := 3) (some 32) (v := ?_) rfl rfl (by as_aux_lemma => kernel_rfl) (by as_aux_lemma => kernel_rfl) (by as_aux_lemma => kernel_rfl) (fun _ _ _ h => h) (Or.inl ⟨by kernel_rfl, ?_⟩) hS ?_
      rotate_left
      · intro w hSw; have c0 := hSw.1.1; have c1 := hSw.1.2.1; have c2 := hSw.1.2.2.1; have c3 := hSw.1.2.2.2; dsimp only at c0 c1 c2 c3; go_simp
        first | done | with_reducible rfl
      refine wpAnyH_takeE (i := 4) (some 33) (v := ?_) rfl rfl (by as_aux_lemma => kernel_rfl) (by as_aux_lemma => kernel_rfl) (by as_aux_lemma => kernel_rfl) (fun _ _ _ h => h) (Or.inl ⟨by kernel_rfl, ?_⟩) hS ?_
      rotate_left
      · intro w hSw; have c0 := hSw.2.1.1; have c1 := hSw.2.1.2.1; have c2 := hSw.2.1.2.2.1; have c3 := hSw.2.1.2.2.2; dsimp only at c0 c1 c2 c3; go_simp
        first | done | with_reducible rfl
      refine wpAnyH_takeE (i := 5) (some 34) (v := ?_) rfl rfl (by as_aux_lemma => kernel_rfl) (by as_aux_lemma => kernel_rfl) (by as_aux_lemma => kernel_rfl) (fun _ _ _ h => h) (Or.inl ⟨by kernel_rfl, ?_⟩) hS ?_
      rotate_left
      · intro w hSw; have c0 := hSw.2.1.1; have c1 := hSw.2.1.2.1; have c2 := hSw.2.1.2.2.1; have c3 := hSw.2.1.2.2.2; dsimp only at c0 c1 c2 c3; go_simp
        first | done | with_reducible rfl
      refine wpAnyH_takeE (i := 6) (some 35) (v := ?_) rfl rfl (by as_aux_lemma => kernel_rfl) (by as_aux_lemma => kernel_rfl) (by as_aux_lemma => kernel_rfl) (fun _ _ _ h => h) (Or.inl ⟨by kernel_rfl, ?_⟩) hS ?_
      rotate_left
      · intro w hSw; have c0 := hSw.2.1.1; have c1 := hSw.2.1.2.1; have c2 := hSw.2.1.2.2.1; have c3 := hSw.2.1.2.2.2; dsimp only at c0 c1 c2 c3; go_simp
        first | done | with_reducible rfl
      refine wpAnyH_takeE (i := 7) (some 36) (v := ?_) rfl rfl (by as_aux_lemma => kernel_rfl) (by as_aux_lemma => kernel_rfl) (by as_aux_lemma => kernel_rfl) (fun _ _ _ h => h) (Or.inl ⟨by kernel_rfl, ?_⟩) hS ?_
      rotate_left
      · intro w hSw; have c0 := hSw.2.1.1; have c1 := hSw.2.1.2.1; have c2 := hSw.2.1.2.2.1; have c3 := hSw.2.1.2.2.2; dsimp only at c0 c1 c2 c3; go_simp
        first | done | with_reducible rfl
      refine wpAnyH_takeE (i := 8) (some 37) (v := ?_) rfl rfl (by as_aux_lemma => kernel_rfl) (by as_aux_lemma => kernel_rfl) (by as_aux_lemma => kernel_rfl) (fun _ _ _ h => h) (Or.inl ⟨by kernel_rfl, ?_⟩) hS ?_
      rotate_left
      · intro w hSw; have c0 := hSw.2.1.1; have c1 := hSw.2.1.2.1; have c2 := hSw.2.1.2.2.1; have c3 := hSw.2.1.2.2.2; dsimp only at c0 c1 c2 c3; go_simp
        first | done | with_reducible rfl
      refine wpAnyH_takeE (i := 10) (some 39) (v := ?_) rfl rfl (by as_aux_lemma => kernel_rfl) (by as_aux_lemma => kernel_rfl) (by as_aux_lemma => kernel_rfl) (fun _ _ _ h => h) (Or.inl ⟨by kernel_rfl, ?_⟩) hS ?_
      rotate_left
      · intro w hSw; have c0 := hSw.1.1; have c1 := hSw.1.2.1; have c2 := hSw.1.2.2.1; have c3 := hSw.1.2.2.2; dsimp only at c0 c1 c2 c3; go_simp
        first | done | with_reducible rfl
      refine wpAnyH_takeE (i := 11) (some 40) (v := ?_) rfl rfl (by as_aux_lemma => kernel_rfl) (by as_aux_lemma => kernel_rfl) (by as_aux_lemma => kernel_rfl) (fun _ _ _ h => h) (Or.inl ⟨by kernel_rfl, ?_⟩) hS ?_
      rotate_left
      · intro w hSw; have c0 := hSw.1.1; have c1 := hSw.1.2.1; have c2 := hSw.1.2.2.1; have c3 := hSw.1.2.2.2; dsimp only at c0 c1 c2 c3; go_simp
        first | done | with_reducible rfl
      refine wpAnyH_takeE (i := 12) (some 41) (v := ?_) rfl rfl (by as_aux_lemma => kernel_rfl) (by as_aux_lemma => kernel_rfl) (by as_aux_lemma => kernel_rfl) (fun _ _ _ h => h) (Or.inl ⟨by kernel_rfl, ?_⟩) hS ?_
      rotate_left
      · intro w hSw; have c0 := hSw.1.1; have c1 := hSw.1.2.1; have c2 := hSw.1.2.2.1; have c3 := hSw.1.2.2.2; dsimp only at c0 c1 c2 c3; go_simp
        first | done | with_reducible rfl
      refine wpAnyH_takeE (i := 13) (some 42) (v := ?_) rfl rfl (by as_aux_lemma => kernel_rfl) (by as_aux_lemma => kernel_rfl) (by as_aux_lemma => kernel_rfl) (fun _ _ _ h => h) (Or.inl ⟨by kernel_rfl, ?_⟩) hS ?_
      rotate_left
      · intro w hSw; have c0 := hSw.1.1; have c1 := hSw.1.2.1; have c2 := hSw.1.2.2.1; have c3 := hSw.1.2.2.2; dsimp only at c0 c1 c2 c3; go_simp
        first | done | with_reducible rfl
      refine wpAnyH_takeE (i := 14) (some 43) (v := ?_) rfl rfl (by as_aux_lemma => kernel_rfl) (by as_aux_lemma => kernel_rfl) (by as_aux_lemma => kernel_rfl) (fun _ _ _ h => h) (Or.inl ⟨by kernel_rfl, ?_⟩) hS ?_
      rotate_left
      · intro w hSw; have c0 := hSw.2.1.1; have c1 := hSw.2.1.2.1; have c2 := hSw.2.1.2.2.1; have c3 := hSw.2.1.2.2.2; dsimp only at c0 c1 c2 c3; go_simp
        first | done | with_reducible rfl
      refine wpAnyH_takeE (i := 15) (some 44) (v := ?_) rfl rfl (by as_aux_lemma => kernel_rfl) (by as_aux_lemma => kernel_rfl) (by as_aux_lemma => kernel_rfl) (fun _ _ _ h => h) (Or.inl ⟨by kernel_rfl, ?_⟩) hS ?_
      rotate_left
      · intro w hSw; have c0 := hSw.2.1.1; have c1 := hSw.2.1.2.1; have c2 := hSw.2.1.2.2.1; have c3 := hSw.2.1.2.2.2; dsimp only at c0 c1 c2 c3; go_simp
        first | done | with_reducible rfl
      refine wpAnyH_takeE (i := 16) (some 45) (v := ?_) rfl rfl (by as_aux_lemma => kernel_rfl) (by as_aux_lemma => kernel_rfl) (by as_aux_lemma => kernel_rfl) (fun _ _ _ h => h) (Or.inl ⟨by kernel_rfl, ?_⟩) hS ?_
      rotate_left
      · intro w hSw; have c0 := hSw.2.1.1; have c1 := hSw.2.1.2.1; have c2 := hSw.2.1.2.2.1; have c3 := hSw.2.1.2.2.2; dsimp only at c0 c1 c2 c3; go_simp
        first | done | with_reducible rfl
      refine wpAnyH_takeE (i := 17) (some 46) (v := ?_) rfl rfl (by as_aux_lemma => kernel_rfl) (by as_aux_lemma => kernel_rfl) (by as_aux_lemma => kernel_rfl) (fun _ _ _ h => h) (Or.inl ⟨by kernel_rfl, ?_⟩) hS ?_
      rotate_left
      · intro w hSw; have c0 := hSw.2.1.1; have c1 := hSw.2.1.2.1; have c2 := hSw.2.1.2.2.1; have c3 := hSw.2.1.2.2.2; dsimp only at c0 c1 c2 c3; go_simp
        first | done | with_reducible rfl
      refine wpAnyH_takeE (i := 18) (some 47) (v := ?_) rfl rfl (by as_aux_lemma => kernel_rfl) (by as_aux_lemma => kernel_rfl) (by as_aux_lemma => kernel_rfl) (fun _ _ _ h => h) (Or.inl ⟨by kernel_rfl, ?_⟩) hS ?_
      rotate_left
      · intro w hSw; have c0 := hSw.2.1.1; have c1 := hSw.2.1.2.1; have c2 := hSw.2.1.2.2.1; have c3 := hSw.2.1.2.2.2; dsimp only at c0 c1 c2 c3; go_simp
        first | done | with_reducible rfl
      refine wpAnyH_ready (rs := [9]) (by as_aux_lemma => kernel_rfl) (by simp) ?_
      refine AllReadyH.cons rfl (fun K hK => ?_) AllReadyH.nil
      go_simp
      go_wp2_with (go_at_call 31; refine (HC1.out _ hS.2.2.2.2.1).mono ?_; rintro e w3 ⟨⟨t1, rfl, ht1⟩, q3⟩)
      refine hK.out _ _ ?_ (fun hS => ?_)
      · exact ⟨hS.1.on q3, hS.2.1.on q3, hS.2.2.on q3⟩
      clear hK K
      clear q3
      refine wpAnyH_ready (rs := [19]) (by as_aux_lemma => kernel_rfl) (by simp) ?_
      refine AllReadyH.cons rfl (fun K hK => ?_) AllReadyH.nil
      go_simp
      go_wp2_with (go_at_call 29; refine (HC2.out _ hS.2.2.2.2.1).mono ?_; rintro e w4 ⟨⟨t2, rfl, ht2⟩, q4⟩)
      refine hK.out _ _ ?_ (fun hS => ?_)
      · exact ⟨hS.1.on q4, hS.2.1.on q4, hS.2.2.on q4⟩
      clear hK K
      clear q4
      obtain rfl : t1 = t2 := Bool.eq_iff_iff.2 (ht1.trans ht2.symm)
      clear ht1 ht2
      refine wpAnyH_takeE (i := 20) (some 49) (v := ?_) rfl rfl (by as_aux_lemma => kernel_rfl) (by as_aux_lemma => kernel_rfl) (by as_aux_lemma => kernel_rfl) (fun _ _ _ h => h) (Or.inl ⟨by kernel_rfl, ?_⟩) hS ?_
      rotate_left
      · intro w hSw; skip; go_simp
        first | done | with_reducible rfl
      have HO2 := Lib.hid hS.2.2
      clear hS
      refine wpAnyH_done (by kernel_rfl) ?_ _
      go_simp
      go_wp2
      go_roundw
      case rel => exact ⟨k + 1, by omega, by have := HLT.out; omega, by go_num, HO2⟩
      case measure => have := HLT.out; simp [intOf]; omega
    · have hkl : ¬ (k : Int) < (n : Int) := by omega
      clear HSm HYm
      go_wp2_with fail
      have hok := HO.out.on (Below.refl wr.heap.size wr).drew
      refine wp_region_any (by kernel_rfl) ?_
      change wpAny _ _ _ _ _ _ _ (World.drew _)
      have hS : (fun w' : World => ActsOk w w' w.heap.size now ap m cp) wr.drew := hok
      refine wpAny_of_held (S := fun w' => ActsOk w w' w.heap.size now ap m cp) _ _ _ _ ?_
      clear hok
      refine wpAnyH_takeE (i := 0) (some 50) (v := ?_) rfl rfl (by as_aux_lemma => kernel_rfl) (by as_aux_lemma => kernel_rfl) (by as_aux_lemma => kernel_rfl) (fun _ _ _ h => h) (Or.inl ⟨by kernel_rfl, ?_⟩) hS ?_
      rotate_left
      · intro w hSw; have k0 := hSw.1; have k1 := hSw.2.1; go_simp
        first | done | with_reducible rfl
      refine wpAnyH_takeE (i := 1) (some 51) (v := ?_) rfl rfl (by as_aux_lemma => kernel_rfl) (by as_aux_lemma => kernel_rfl) (by as_aux_lemma => kernel_rfl) (fun _ _ _ h => h) (Or.inl ⟨by kernel_rfl, ?_⟩) hS ?_
      rotate_left
      · intro w hSw; have k0 := hSw.1; have k1 := hSw.2.1; go_simp
        first | done | with_reducible rfl
      refine wpAnyH_takeE (i := 2) (some 52) (v := ?_) rfl rfl (by as_aux_lemma => kernel_rfl) (by as_aux_lemma => kernel_rfl) (by as_aux_lemma => kernel_rfl) (fun _ _ _ h => h) (Or.inl ⟨by kernel_rfl, ?_⟩) hS ?_
      rotate_left
      · intro w hSw; have k0 := hSw.1; have k1 := hSw.2.1; go_simp
        first | done | with_reducible rfl
      refine wpAnyH_takeE (i := 4) (some 54) (v := ?_) rfl rfl (by as_aux_lemma => kernel_rfl) (by as_aux_lemma => kernel_rfl) (by as_aux_lemma => kernel_rfl) (fun _ _ _ h => h) (Or.inl ⟨by kernel_rfl, ?_⟩) hS ?_
      rotate_left
      · intro w hSw; have k0 := hSw.1; have k1 := hSw.2.1; go_simp
        first | done | with_reducible rfl
      refine wpAnyH_takeE (i := 5) (some 55) (v := ?_) rfl rfl (by as_aux_lemma => kernel_rfl) (by as_aux_lemma => kernel_rfl) (by as_aux_lemma => kernel_rfl) (fun _ _ _ h => h) (Or.inl ⟨by kernel_rfl, ?_⟩) hS ?_
      rotate_left
      · intro w hSw; have k0 := hSw.1; have k1 := hSw.2.1; go_simp
        first | done | with_reducible rfl
      refine wpAnyH_takeE (i := 6) (some 56) (v := ?_) rfl rfl (by as_aux_lemma => kernel_rfl) (by as_aux_lemma => kernel_rfl) (by as_aux_lemma => kernel_rfl) (fun _ _ _ h => h) (Or.inl ⟨by kernel_rfl, ?_⟩) hS ?_
      rotate_left
      · intro w hSw; have k0 := hSw.1; have k1 := hSw.2.1; go_simp
        first | done | with_reducible rfl
      refine wpAnyH_ready (rs := [3]) (by as_aux_lemma => kernel_rfl) (by simp) ?_
      refine AllReadyH.cons rfl (fun K hK => ?_) AllReadyH.nil
      go_simp
      go_wp2_with (go_at_call 33; refine (HAc.out _ hS.2.2.1).mono ?_; rintro e w3 ⟨a3, n3, c3, M3, rfl, hr3, hm3, q3⟩)
      refine hK.out _ _ ?_ (fun hS => ?_)
      · exact hS.on q3
      clear hK K
      obtain ⟨rfl, hs3⟩ := hr3.at
      have HM3 := Lib.hid (And.intro hs3 hm3)
      clear q3 hr3 hs3 hm3
      refine wpAnyH_ready (rs := [7]) (by as_aux_lemma => kernel_rfl) (by simp) ?_
      refine AllReadyH.cons rfl (fun K hK => ?_) AllReadyH.nil
      go_simp
      go_wp2_with (go_at_call 34; refine (HAy.out _ hS.2.2.1).mono ?_; rintro e w4 ⟨a4, n4, c4, M4, rfl, hr4, hm4, q4⟩)
      refine hK.out _ _ ?_ (fun hS => ?_)
      · exact hS.on q4
      clear hK K
      obtain ⟨hn4, hs4⟩ := hr4.at
      obtain ⟨hs3, hm3⟩ := HM3.out
      have hmm : M3.map Sm.s = M4.map Sm.s := hm3.trans hm4.symm
      have hlen : M3.length = M4.length := by simpa using congrArg List.length hmm
      obtain rfl : n4 = M3.length := by omega
      have HSA := Lib.hid (ySameAll_yes a3 c3 M3 a4 c4 M4 w4 (hs3.below q4 (Nat.le_refl _)) hs4 hmm (fun x hx => active_short (l := l) (now := now) (by rw [← hm3]; exact List.mem_map_of_mem hx)) M3.length rfl (by have h5 := congrArg List.length hm3; rw [List.length_map] at h5; have h6 := activeL_len l now; have := HX.out.2.2; omega))
      clear q4 hr4 hn4 hs4 hs3 hm3 hm4 hmm hlen HM3
      refine wpAnyH_ready (rs := [8]) (by as_aux_lemma => kernel_rfl) (by simp) ?_
      refine AllReadyH.cons rfl (fun K hK => ?_) AllReadyH.nil
      go_simp
      go_wp2_with (go_at_call 32; refine HSA.out.mono ?_; rintro e w5 ⟨rfl, q5⟩)
      refine hK.out _ _ ?_ (fun hS => ?_)
      · exact hS.on q5
      clear hK K
      clear q5 HSA
      refine wpAnyH_takeE (i := 9) (some 59) (v := ?_) rfl rfl (by as_aux_lemma => kernel_rfl) (by as_aux_lemma => kernel_rfl) (by as_aux_lemma => kernel_rfl) (fun _ _ _ h => h) (Or.inl ⟨by kernel_rfl, ?_⟩) hS ?_
      rotate_left
      · intro w hSw; have k0 := hSw.1; have k1 := hSw.2.1; go_simp
        first | done | with_reducible rfl
      refine wpAnyH_takeE (i := 10) (some 60) (v := ?_) rfl rfl (by as_aux_lemma => kernel_rfl) (by as_aux_lemma => kernel_rfl) (by as_aux_lemma => kernel_rfl) (fun _ _ _ h => h) (Or.inl ⟨by kernel_rfl, ?_⟩) hS ?_
      rotate_left
      · intro w hSw; have k0 := hSw.1; have k1 := hSw.2.1; go_simp
        first | done | with_reducible rfl
      refine wpAnyH_takeE (i := 11) (some 61) (v := ?_) rfl rfl (by as_aux_lemma => kernel_rfl) (by as_aux_lemma => kernel_rfl) (by as_aux_lemma => kernel_rfl) (fun _ _ _ h => h) (Or.inl ⟨by kernel_rfl, ?_⟩) hS ?_
      rotate_left
      · intro w hSw; have k0 := hSw.1; have k1 := hSw.2.1; go_simp
        first | done | with_reducible rfl
      refine wpAnyH_takeE (i := 12) (some 62) (v := ?_) rfl rfl (by as_aux_lemma => kernel_rfl) (by as_aux_lemma => kernel_rfl) (by as_aux_lemma => kernel_rfl) (fun _ _ _ h => h) (Or.inl ⟨by kernel_rfl, ?_⟩) hS ?_
      rotate_left
      · intro w hSw; have k0 := hSw.1; have k1 := hSw.2.1; go_simp
        first | done | with_reducible rfl
      refine wpAnyH_takeE (i := 14) (some 64) (v := ?_) rfl rfl (by as_aux_lemma => kernel_rfl) (by as_aux_lemma => kernel_rfl) (by as_aux_lemma => kernel_rfl) (fun _ _ _ h => h) (Or.inl ⟨by kernel_rfl, ?_⟩) hS ?_
      rotate_left
      · intro w hSw; have k0 := hSw.1; have k1 := hSw.2.1; go_simp
        first | done | with_reducible rfl
      refine wpAnyH_takeE (i := 15) (some 65) (v := ?_) rfl rfl (by as_aux_lemma => kernel_rfl) (by as_aux_lemma => kernel_rfl) (by as_aux_lemma => kernel_rfl) (fun _ _ _ h => h) (Or.inl ⟨by kernel_rfl, ?_⟩) hS ?_
      rotate_left
      · intro w hSw; have k0 := hSw.1; have k1 := hSw.2.1; go_simp
        first | done | with_reducible rfl
      refine wpAnyH_takeE (i := 16) (some 66) (v := ?_) rfl rfl (by as_aux_lemma => kernel_rfl) (by as_aux_lemma => kernel_rfl) (by as_aux_lemma => kernel_rfl) (fun _ _ _ h => h) (Or.inl ⟨by kernel_rfl, ?_⟩) hS ?_
      rotate_left
      · intro w hSw; have k0 := hSw.1; have k1 := hSw.2.1; go_simp
        first | done | with_reducible rfl
      refine wpAnyH_ready (rs := [13]) (by as_aux_lemma => kernel_rfl) (by simp) ?_
      refine AllReadyH.cons rfl (fun K hK => ?_) AllReadyH.nil
      go_simp
      go_wp2_with (go_at_call 35; refine (HMu.out _ hS.2.2.1).mono ?_; rintro e w6 ⟨rfl, q6⟩)
      refine hK.out _ _ ?_ (fun hS => ?_)
      · exact hS.on q6
      clear hK K
      clear q6
      refine wpAnyH_ready (rs := [17]) (by as_aux_lemma => kernel_rfl) (by simp) ?_
      refine AllReadyH.cons rfl (fun K hK => ?_) AllReadyH.nil
      go_simp
      go_wp2_with (go_at_call 36; refine (HMy.out _ hS.2.2.1).mono ?_; rintro e w7 ⟨rfl, q7⟩)
      refine hK.out _ _ ?_ (fun hS => ?_)
      · exact hS.on q7
      clear hK K
      clear q7
      refine wpAnyH_takeE (i := 18) (some 68) (v := ?_) rfl rfl (by as_aux_lemma => kernel_rfl) (by as_aux_lemma => kernel_rfl) (by as_aux_lemma => kernel_rfl) (fun _ _ _ h => h) (Or.inl ⟨by kernel_rfl, ?_⟩) hS ?_
      rotate_left
      · intro w hSw; skip; go_simp
        first | done | with_reducible rfl
      refine wpAnyH_takeE (i := 19) (some 69) (v := ?_) rfl rfl (by as_aux_lemma => kernel_rfl) (by as_aux_lemma => kernel_rfl) (by as_aux_lemma => kernel_rfl) (fun _ _ _ h => h) (Or.inl ⟨by kernel_rfl, ?_⟩) hS ?_
      rotate_left
      · intro w hSw; skip; go_simp
        first | done | with_reducible rfl
      refine wpAnyH_takeE (i := 20) (some 70) (v := ?_) rfl rfl (by as_aux_lemma => kernel_rfl) (by as_aux_lemma => kernel_rfl) (by as_aux_lemma => kernel_rfl) (fun _ _ _ h => h) (Or.inl ⟨by kernel_rfl, ?_⟩) hS ?_
      rotate_left
      · intro w hSw; skip; go_simp
        first | done | with_reducible rfl
      refine wpAnyH_ready (rs := [21]) (by as_aux_lemma => kernel_rfl) (by simp) ?_
      refine AllReadyH.cons rfl (fun K hK => ?_) AllReadyH.nil
      go_simp
      go_wp2_with (go_at_call 22; refine (HA.out _ hS.2.2.1).mono ?_; rintro e w8 ⟨rfl, q8⟩)
      refine hK.out _ _ ?_ (fun hS => ?_)
      · exact hS.on q8
      clear hK K
      clear q8
      refine wpAnyH_takeE (i := 22) (some 72) (v := ?_) rfl rfl (by as_aux_lemma => kernel_rfl) (by as_aux_lemma => kernel_rfl) (by as_aux_lemma => kernel_rfl) (fun _ _ _ h => h) (Or.inl ⟨by kernel_rfl, ?_⟩) hS ?_
      rotate_left
      · intro w hSw; skip; go_simp
        first | done | with_reducible rfl
      refine wpAnyH_takeE (i := 23) (some 6) (v := ?_) rfl rfl (by as_aux_lemma => kernel_rfl) (by as_aux_lemma => kernel_rfl) (by as_aux_lemma => kernel_rfl) (fun _ _ _ h => h) (Or.inl ⟨by kernel_rfl, ?_⟩) hS ?_
      rotate_left
      · intro w hSw; skip; go_simp
        first | done | with_reducible rfl
      have h5 := Lib.hid hS.2.2.1
      clear hS
      refine wpAnyH_done (by kernel_rfl) ?_ _
      go_simp
      go_wp2
      go_ret
      exact ⟨by simp, h5.out⟩

theorem acts_walkS (aE : Option Addr) (cE : Nat) (l : List Ent) (aS : Option Addr) (cS : Nat) (L : List Sm) (now : Int) (ap : Option Addr) (cp : Nat) (ps : List Pr) (w : World) (htab : TabW w) (hv : VarsOk w.heap.size w) (hE : EntsAt w aE l) (hsz : ∀ x ∈ l, x.v.size ≤ 1048576 ∧ x.k.size ≤ 1048576) (hS : SilsAt w aS L) (hml : ∀ x ∈ L, x.s.ms.length ≤ 9223372036854775807) (hnm : ∀ x ∈ L, ∀ m ∈ x.s.ms, m.1.size ≤ 9223372036854775807) (hP : PairsAt w ap ps) (hnb : L.length ≤ 9223372036854775807) (hmb : ps.length ≤ 9223372036854775807) :
    Calls Tryz.prog 8 #[.slice aE l.length cE, .slice aS L.length cS, .agg #[.int .i64 now, .slice ap ps.length cp]] w fun e w' => e = .returned (.bool true) ∧ Below w.heap.size w w' := by
  by_cases h1 : 40 < l.length
  · exact acts_a aE cE l aS cS L now ap cp ps w htab hv hS hP _ _ _ rfl rfl rfl hnb hmb h1
  by_cases h2 : LightS L
  · by_cases h3 : LightP 0 ps
    · exact acts_d aE cE l aS cS L now ap cp ps w htab hv hE hsz hS hml hnm hP _ _ _ rfl rfl rfl hnb hmb h1 h2 h3
    · exact acts_c aE cE l aS cS L now ap cp ps w htab hv hS hP _ _ _ rfl rfl rfl hnb hmb h1 h2 h3
  · exact acts_b aE cE l aS cS L now ap cp ps w htab hv hS hP _ _ _ rfl rfl rfl hnb hmb h1 h2

end Go.Proofs.YtcngifkoopcmeaaGreatDoor
