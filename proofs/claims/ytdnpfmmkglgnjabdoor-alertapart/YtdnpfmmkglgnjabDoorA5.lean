/-
  A store of alerts of one label; the closed case of every statement of layer 7.
-/
import Derived.Test.YtdnpfmmkglgnjabDoorA4
namespace Go.Proofs.YtdnpfmmkglgnjabDoor
open Go.RowKit

/-- The labels of the closed case. -/
def psA (v : ByteArray) : List Pr := [(⟨#[97]⟩, v)]
theorem psA_one : checkE (psA ⟨#[49]⟩) = 0 := by
  have h1 : partsE (psA ⟨#[49]⟩) = 0 := by decide +kernel
  unfold checkE
  rw [h1, if_neg (by simp), if_pos (by simp [psA])]
theorem psA_x : checkE (psA ⟨#[120]⟩) = 0 := by
  have h1 : partsE (psA ⟨#[120]⟩) = 0 := by decide +kernel
  unfold checkE
  rw [h1, if_neg (by simp), if_pos (by simp [psA])]
theorem check_nil : checkE [] = 0 := by
  have h1 : partsE [] = 0 := by decide +kernel
  unfold checkE
  rw [h1, if_neg (by simp), if_pos (by simp)]

set_option maxHeartbeats 1000000 in
theorem awOne_any (v : ByteArray) (s e : Int) (w : World) :
    Calls Tryd.prog 12 #[.string v, .int .i64 s, .int .i64 e] w fun r w' => r = .returned (.agg #[.slice (some ⟨w.heap.size + 1, 0, none⟩) 1 1, .int .i64 s, .int .i64 e]) ∧ PairsAt w' (some ⟨w.heap.size + 1, 0, none⟩) (psA v) ∧ Below w.heap.size w w' := by
  have d1 := (Below.refl w.heap.size w).alloc (Nat.le_refl _) (.cells #[.slice (some ⟨w.heap.size + 1, 0, none⟩) 1 1, .int .i64 s, .int .i64 e] 25)
  have d2 := d1.alloc (by simp) (.cells #[.string ⟨#[97]⟩, .string v] 52)
  have s1 : (w.alloc (.cells #[.slice (some ⟨w.heap.size + 1, 0, none⟩) 1 1, .int .i64 s, .int .i64 e] 25)).heap.size = w.heap.size + 1 := by simp
  have c2 := newA (w.alloc (.cells #[.slice (some ⟨w.heap.size + 1, 0, none⟩) 1 1, .int .i64 s, .int .i64 e] 25)) (.cells #[.string ⟨#[97]⟩, .string v] 52)
  rw [s1] at c2
  have hP : PairsAt ((w.alloc (.cells #[.slice (some ⟨w.heap.size + 1, 0, none⟩) 1 1, .int .i64 s, .int .i64 e] 25)).alloc (.cells #[.string ⟨#[97]⟩, .string v] 52)) (some ⟨w.heap.size + 1, 0, none⟩) (psA v) := fun _ => ⟨_, 0, rfl, fun i hi => by
    obtain rfl : i = 0 := by have : i < 1 := hi; omega
    exact ⟨cellA c2, cellA c2⟩⟩
  have HH := Lib.hid (And.intro hP d2)
  clear d1 d2 s1 c2 hP
  go_enter Tryd.func12, Tryd.ntmps12
  go_wp2
  exact bodyPost_ret (v := .agg #[.slice (some ⟨w.heap.size + 1, 0, none⟩) 1 1, .int .i64 s, .int .i64 e]) (by simp [results, Tryd.results12, go_sem]) rfl ⟨rfl, HH.out⟩

theorem Below.of_turn {B : Nat} {w w' : World} {bm : Nat} (h : w.grownBy w' (some bm)) (hB : B ≤ w.heap.size) (hb : B ≤ bm) : Below B w w' := (Below.refl B w).grown h hB (fun k e => by obtain rfl := Option.some.inj e; exact hb)

/-- A store of nothing, or of one alert of these labels. -/
def OneSt (S : List Rw) (ps : List Pr) : Prop := S = [] ∨ ∃ x, S = [x] ∧ x.ps = ps
theorem aPut_single (sb bm : Nat) (S : List Rw) (a : Option Addr) (c : Nat) (ps : List Pr) (s e : Int) (B : Nat) (w : World) (h : StAt w sb bm S) (hS : OneSt S ps) (hE : alE ps s e = 0) (hp : PairsAt w a ps) (hB : B ≤ w.heap.size) (hv : TabOk B w) (n : Nat) (hn : n = ps.length) :
    Calls Tryd.prog 9 #[.pointer (some ⟨sb, 0, none⟩), .agg #[.slice a n c, .int .i64 s, .int .i64 e]] w fun r w' => r = .returned (.int .i64 0) ∧ w.grownBy w' (some bm) ∧ ∃ x, StAt w' sb bm [x] ∧ x.ps = ps ∧ x.en = e ∧ x.st ≤ s ∧ x.st = startA S ps s e := by
  have h64 : S.length ≤ 1 := by rcases hS with rfl | ⟨x, rfl, -⟩ <;> simp
  have hR : putE S ps s e = 0 := by
    unfold putE
    rw [if_neg (by simp [hE]), if_neg (by rintro ⟨-, h⟩; omega)]
  have hp1 : ∀ ad cp, putR ⟨ps, startA S ps s e, e, ad, cp⟩ S = [⟨ps, startA S ps s e, e, ad, cp⟩] := fun ad cp => by
    rcases hS with rfl | ⟨x, rfl, hx⟩
    · rfl
    · unfold putR
      have : x.key = (⟨ps, startA [x] ps s e, e, ad, cp⟩ : Rw).key := by unfold Rw.key; rw [hx]
      simp [this, insR]
  have hs : startA S ps s e ≤ s := by
    unfold startA
    split
    · split
      · omega
      · omega
    · omega
  refine (aPut_any sb bm S a c ps s e B w h hp hB hv n hn (by omega)).mono ?_
  rintro r w' ⟨rfl, hg, S', h1, -, h2⟩
  obtain ⟨ad, cp, rfl, -⟩ := h2 hR
  rw [hp1] at h1
  exact ⟨by rw [hR], hg, _, h1, rfl, rfl, hs, rfl⟩

/-- What fires of one alert. -/
theorem aFiring_single (sb bm : Nat) (x : Rw) (now : Int) (w : World) (h : StAt w sb bm [x]) :
    Calls Tryd.prog 13 #[.pointer (some ⟨sb, 0, none⟩), .int .i64 now] w fun e w' => (∃ a c, e = .returned (.slice a (if firesP x.st x.en now then 1 else 0) c) ∧ (firesP x.st x.en now = true → ∃ g, a = some ⟨g, 0, none⟩ ∧ w'.cell? ⟨g, 1, none⟩ = some (.int .i64 x.st) ∧ w'.cell? ⟨g, 2, none⟩ = some (.int .i64 x.en))) ∧ Below w.heap.size w w' := by
  refine (aFiring_any sb bm [x] now w h (by simp)).mono ?_
  rintro e w' ⟨a, c, L, rfl, hL, hm, hb⟩
  refine ⟨⟨a, c, ?_⟩, hb⟩
  cases hf : firesP x.st x.en now with
  | false =>
    have h0 : L.length = 0 := by
      have := congrArg List.length hm
      simpa [hf] using this
    rw [h0]
    exact ⟨rfl, fun h => by cases h⟩
  | true =>
    have hm' : L.map Rw.al = [x.al] := by rw [hm]; simp [hf]
    obtain ⟨y, rfl⟩ : ∃ y, L = [y] := List.length_eq_one_iff.1 (by have := congrArg List.length hm'; simpa using this)
    refine ⟨rfl, fun _ => ?_⟩
    obtain ⟨a', c', hv, -, -, hc⟩ := hL.1.form
    obtain ⟨g, hg, -, h1, h2⟩ := hc 0 (by simp)
    simp only [Value.slice.injEq] at hv
    obtain ⟨rfl, -, -⟩ := hv
    have e1 : y.al = x.al := by simpa using hm'
    have e2 : y.st = x.st := congrArg (fun p : Al => p.2.1) e1
    have e3 : y.en = x.en := congrArg (fun p : Al => p.2.2) e1
    refine ⟨g, hg, ?_, ?_⟩
    · simpa [e2] using h1
    · simpa [e3] using h2

/-- A new store. -/
theorem aNew_st (w : World) : Calls Tryd.prog 6 #[] w fun e w' => e = .returned (.pointer (some ⟨w.heap.size + 1, 0, none⟩)) ∧ StAt w' (w.heap.size + 1) w.heap.size [] ∧ Below w.heap.size w w' := by
  refine (aNew_any w).mono ?_
  rintro e w' ⟨rfl, rfl⟩
  have d1 := (Below.refl w.heap.size w).alloc (Nat.le_refl _) (.map #[] 0)
  have d2 := d1.alloc (by simp) (.cells #[.map (some w.heap.size)] 47)
  have s1 : (w.alloc (.map #[] 0)).heap.size = w.heap.size + 1 := by simp
  have c2 := newA (w.alloc (.map #[] 0)) (.cells #[.map (some w.heap.size)] 47)
  rw [s1] at c2
  exact ⟨rfl, ⟨c2, (StMap.made w).below ((Below.refl _ _).alloc (Nat.le_refl _) _) (by simp), fun r hr => by cases hr⟩, d2⟩

theorem start_nil (ps : List Pr) (s e : Int) : startA [] ps s e = s := rfl
theorem start_one (x : Rw) (ps : List Pr) (s e : Int) (hx : x.ps = ps) : startA [x] ps s e = if meetP x.st x.en s e then min x.st s else s := by
  unfold startA
  have : (x.key == keyL ps) = true := by unfold Rw.key; simp [hx]
  simp [this]
theorem pairs_nil (w : World) : PairsAt w none [] := fun h => by simp at h

set_option maxRecDepth 100000 in
set_option maxHeartbeats 4000000 in
theorem aawake_any (B : Nat) (w : World) (hB : B ≤ w.heap.size) (hv : TabOk B w) : Calls Tryd.prog 5 #[] w fun e w' => e = .returned (.bool true) ∧ Below w.heap.size w w' := by
  have HN := Lib.hid (aNew_st w)
  have HV := Lib.hid (And.intro hB hv)
  have e1 : alE (psA ⟨#[49]⟩) 5 10 = 0 := alE_mk psA_one (by simp [psA]) (by omega) (by omega) (by omega)
  have e2 : alE (psA ⟨#[49]⟩) 8 20 = 0 := alE_mk psA_one (by simp [psA]) (by omega) (by omega) (by omega)
  have e3 : alE [] 0 1 = 6 := by unfold alE; rw [check_nil]; simp
  have HE := Lib.hid (And.intro e1 (And.intro e2 e3))
  clear hB hv e1 e2 e3
  go_enter Tryd.func5, Tryd.ntmps5
  go_wp2_with (go_at_call 6; refine HN.out.mono ?_; rintro e w1 ⟨rfl, h1, b1⟩; refine Hid.out ?_)
  refine Lib.hid ?_
  have HO1 := Lib.hid (awOne_any ⟨#[49]⟩ 5 10 w1)
  have HH1 := Lib.hid (And.intro h1 b1)
  clear h1 b1 HN
  go_wp2_with (go_at_call 12; refine HO1.out.mono ?_; rintro e w2 ⟨rfl, p2, q2⟩; refine Hid.out ?_)
  refine Lib.hid ?_
  obtain ⟨hB, hv⟩ := HV.out
  obtain ⟨h1, b1⟩ := HH1.out
  have b2 := b1.trans (q2.mono b1.size)
  have HP2 := Lib.hid (aPut_single _ _ _ _ 1 _ 5 10 B w2 (h1.below q2 (Nat.le_refl _)) (.inl rfl) HE.out.1 p2 (Nat.le_trans hB b2.size) (hv.on (b2.mono hB)) 1 rfl)
  have HH2 := Lib.hid b2
  clear h1 b1 q2 p2 b2 HH1 HO1 hB hv
  generalize w1.heap.size + 1 = x1 at *
  go_wp2_with (go_at_call 9; refine HP2.out.mono ?_; rintro e w3 ⟨rfl, g3, y3, h3, y3p, y3e, -, y3s⟩; refine Hid.out ?_)
  refine Lib.hid ?_
  have b3 := HH2.out.grown g3 HH2.out.size (fun k e => by obtain rfl := Option.some.inj e; exact Nat.le_refl _)
  have HO3 := Lib.hid (awOne_any ⟨#[49]⟩ 8 20 w3)
  have HH3 := Lib.hid (And.intro h3 (And.intro b3 (And.intro y3p (And.intro y3e y3s))))
  clear h3 b3 y3p y3e y3s g3 HP2 HH2
  go_wp2_with (go_at_call 12; refine HO3.out.mono ?_; rintro e w4 ⟨rfl, p4, q4⟩; refine Hid.out ?_)
  refine Lib.hid ?_
  obtain ⟨hB, hv⟩ := HV.out
  obtain ⟨h3, b3, y3p, y3e, y3s⟩ := HH3.out
  have b4 := b3.trans (q4.mono b3.size)
  have HP4 := Lib.hid (aPut_single _ _ _ _ 1 _ 8 20 B w4 (h3.below q4 (Nat.le_refl _)) (.inr ⟨y3, rfl, y3p⟩) HE.out.2.1 p4 (Nat.le_trans hB b4.size) (hv.on (b4.mono hB)) 1 rfl)
  have HH4 := Lib.hid (And.intro b4 (And.intro y3p (And.intro y3e y3s)))
  clear h3 b3 y3p y3e y3s q4 p4 b4 HH3 HO3 hB hv
  generalize w3.heap.size + 1 = x3 at *
  go_wp2_with (go_at_call 9; refine HP4.out.mono ?_; rintro e w5 ⟨rfl, g5, y5, h5, y5p, y5e, -, y5s⟩; refine Hid.out ?_)
  refine Lib.hid ?_
  obtain ⟨b4, y3p, y3e, y3s⟩ := HH4.out
  have b5 := b4.grown g5 b4.size (fun k e => by obtain rfl := Option.some.inj e; exact Nat.le_refl _)
  have y5s' : y5.st = 5 := by
    rw [y5s, start_one _ _ _ _ y3p, y3e, y3s, start_nil]
    decide
  have HP6 := Lib.hid (aPut_err _ _ _ none 0 [] 0 1 w5 h5 (pairs_nil _) 0 rfl (by rw [HE.out.2.2]; decide))
  have hR6 : putE [y5] [] 0 1 = 6 := by unfold putE; rw [HE.out.2.2]; rfl
  unfold PutPost at HP6
  rw [hR6] at HP6
  have HH5 := Lib.hid (And.intro b5 (And.intro y5s' y5e))
  clear b4 y3p y3e y3s HH4 HP4 g5 h5 y5p y5e y5s b5 y5s' hR6
  go_wp2_with (go_at_call 9; refine HP6.out.mono ?_; rintro e w6 ⟨rfl, g6, S6, h6, h6e, -⟩; refine Hid.out ?_)
  refine Lib.hid ?_
  obtain rfl := h6e (by decide)
  obtain ⟨b5, y5s, y5e⟩ := HH5.out
  have b6 := b5.grown g6 b5.size (fun k e => by obtain rfl := Option.some.inj e; exact Nat.le_refl _)
  have HF6 := Lib.hid (aFiring_single _ _ _ 19 w6 h6)
  have t19 : firesP 5 20 19 = true := by decide
  rw [y5s, y5e, t19] at HF6
  have HH6 := Lib.hid (And.intro b6 (And.intro h6 (And.intro y5s y5e)))
  clear b5 y5s y5e b6 h6 g6 h6e HH5 HP6 t19
  go_wp2_with (go_at_call 13; refine HF6.out.mono ?_; rintro e w7 ⟨⟨a7, c7, rfl, hc7⟩, q7⟩; refine Hid.out ?_)
  refine Lib.hid ?_
  obtain ⟨g7, rfl, c71, c72⟩ := hc7 (by simp)
  obtain ⟨b6, h6, y5s, y5e⟩ := HH6.out
  have HF7 := Lib.hid (aFiring_single _ _ _ 20 w7 (h6.below q7 (Nat.le_refl _)))
  have t20 : firesP 5 20 20 = false := by decide
  rw [y5s, y5e, t20] at HF7
  have HH7 := Lib.hid (b6.trans (q7.mono b6.size))
  clear b6 h6 y5s y5e q7 HH6 t20 hc7 HF6
  go_wp2_with (go_at_call 13; refine HF7.out.mono ?_; rintro e w8 ⟨⟨a8, c8, rfl, -⟩, q8⟩; refine Hid.out ?_)
  refine Lib.hid ?_
  have HH8 := Lib.hid (HH7.out.trans (q8.mono HH7.out.size))
  clear q8 HH7 HF7 c71 c72
  go_wp2
  go_ret
  exact ⟨rfl, HH8.out⟩

end Go.Proofs.YtdnpfmmkglgnjabDoor
