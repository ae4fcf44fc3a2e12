/-
  What the library's symMerge does at a row of keyed alerts: two rising rows, put into one.
-/
import Derived.Test.YtmanjegdgjeeiaaGreatDoorKW17
namespace Go.Proofs.YtmanjegdgjeeiaaGreatDoor
open Go.Shelf Go.RowKit Go.Lib Go.Sort
variable {P : Program} {α : Type} [Inhabited α]

theorem TwoL.congr {lt : α → α → Bool} {L : α → α → Prop} {d d' : Array α} {a m b : Nat} (ham : a ≤ m) (hmb : m ≤ b) (h : TwoL lt L a m b d) (he : ∀ t, a ≤ t → t < b → d'[t]! = d[t]!) : TwoL lt L a m b d' :=
  ⟨fun i j h1 h2 h3 => by rw [he i h1 (by omega), he j (by omega) (by omega)]; exact h.left i j h1 h2 h3, fun i j h1 h2 h3 => by rw [he i (by omega) (by omega), he j (by omega) h3]; exact h.right i j h1 h2 h3,
    fun i j h1 h2 h3 h4 => by rw [he i h1 (by omega), he j (by omega) h4]; exact h.cross i j h1 h2 h3 h4⟩

set_option maxHeartbeats 8000000 in
set_option maxRecDepth 1000000 in
/-- One ahead of many. -/
theorem kSym_left (L : StabT P) (FG : P.funcs[117]? = some Tryz.f117)
    (k : Nat) (aE : ∀ w, (isAgg 67).run P w = .ok true w) (zE : ∀ w, (Go.sizeOf 67).run P w = .ok k w) (enc : α → List Value) (cf : α → α → Int) (g : Nat) (cb : Array Value) (blk off cap : Nat) (d0 : Array α) (w0 : World)
    (eg : ∀ args w, (callFunc g args).run P w = .ok (.enter g args) w) (hcmp : CmpLays P g cb enc k cf blk off d0.size w0) (R : RowK enc k w0 blk off d0) (hsz : d0.size < 4611686018427387904) (LL : α → α → Prop) (tr : ∀ x y z, LL x y → LL y z → LL x z)
    (a b : Nat) (dk : Array α) (w : World) (hds : dk.size = d0.size) (S : SWK enc k w0 blk off dk w) (hab : a + 1 < b) (hb : b ≤ d0.size) (hT : TwoL (ltOf cf) LL a (a + 1) b dk) (m : Nat) (hm : m = a + 1) :
    Calls P 117 #[.slice (some ⟨blk, off, none⟩) d0.size cap, .int .i64 a, .int .i64 m, .int .i64 b, .func (.func g) #[] cb] w fun e w' => e = .returned (.tuple #[]) ∧ ∃ d', SWK enc k w0 blk off d' w' ∧ PermIn a b dk d' ∧ SortL LL a b d' := by
  have mixed := L.mixed; have t0 := L.t0; have a0 := L.a0; have z0 := L.z0; have v0 := L.v0; have t3 := L.t3; have a3 := L.a3; have z3 := L.z3; have v3 := L.v3; have t4 := L.t4; have a4 := L.a4; have z4 := L.z4; have v4 := L.v4; have t22 := L.t22; have a22 := L.a22; have z22 := L.z22; have v22 := L.v22; have t25 := L.t25; have a25 := L.a25; have z25 := L.z25; have v25 := L.v25; have t39 := L.t39; have a39 := L.a39; have z39 := L.z39; have v39 := L.v39
  have S0 : Aside (SWK enc k w0 blk off dk w) := S
  have HC : Aside (CmpLays P g cb enc k cf blk off d0.size w0) := hcmp
  have HT : Aside (TwoL (ltOf cf) LL a (a + 1) b dk) := hT
  clear S hcmp hT
  have hm1 : m ≤ a + 1 := by omega
  have hm2 : a + 1 ≤ m := by omega
  have hmq : ((m : Int) - (a : Int) == 1) = true := by rw [beq_iff_eq]; omega
  have HM := Lib.hid hm
  clear hm
  go_enter FG, Tryz.ntmps117
  go_wp2
  go_loopg [10, 11] (b - a) (fun kx s10 s11 wr => ∃ (i j : Nat), s10 = .int .i64 i ∧ s11 = .int .i64 j ∧ a + 1 ≤ i ∧ i ≤ j ∧ j ≤ b ∧ j - i ≤ kx ∧ Aside (SWK enc k w0 blk off dk wr) ∧ Aside ((∀ h, a + 1 ≤ h → h < i → LL dk[h]! dk[a]!) ∧ (∀ h, j ≤ h → h < b → LL dk[a]! dk[h]!)))
  case atStart => exact ⟨m, b, rfl, rfl, by omega, by omega, Nat.le_refl _, by omega, S0, fun h h1 h2 => by omega, fun h h1 h2 => by omega⟩
  case round =>
    clear S0
    obtain ⟨i, j, rfl, rfl, hi, hij, hjb, hkx, S1, HI⟩ := hrel
    by_cases hlt : i < j
    · have hltz : (i : Int) < (j : Int) := by omega
      obtain ⟨h, hh⟩ : ∃ h, h = (i + j) / 2 := ⟨_, rfl⟩
      have hh1 : i ≤ h := by omega
      have hh2 : h < j := by omega
      have hw1 : IntKind.i64.wrap ((i : Int) + (j : Int)) = (i : Int) + (j : Int) := by rw [IntKind.wrap_i64]; omega
      have hw2 : IntKind.u64.wrap ((i : Int) + (j : Int)) = (i : Int) + (j : Int) := by simp [IntKind.wrap, IntKind.bits, IntKind.signed]; omega
      have hw3 : IntKind.u64.wrap (((i : Int) + (j : Int)) / 2) = ((h : Nat) : Int) := by simp [IntKind.wrap, IntKind.bits, IntKind.signed]; omega
      have hw4 : IntKind.i64.wrap ((h : Nat) : Int) = ((h : Nat) : Int) := by rw [IntKind.wrap_i64]; omega
      have hw5 : ((i : Int) + (j : Int)) / 2 = ((h : Nat) : Int) := by omega
      have hw6 : IntKind.i64.wrap (((i : Int) + (j : Int)) / 2) = ((h : Nat) : Int) := by rw [IntKind.wrap_i64]; omega
      clear hh
      have ea1 : ((h : Int)).toNat = h := by omega
      have pa1 : (0 : Int) ≤ (h : Int) := by omega
      have ba1 : (h : Int) < (d0.size : Int) := by omega
      have ra1 : IntKind.i64.wrap ((h : Int)) = (h : Int) := by rw [IntKind.wrap_i64]; omega
      have ea2 : ((a : Int)).toNat = a := by omega
      have pa2 : (0 : Int) ≤ (a : Int) := by omega
      have ba2 : (a : Int) < (d0.size : Int) := by omega
      have ra2 : IntKind.i64.wrap ((a : Int)) = (a : Int) := by rw [IntKind.wrap_i64]; omega
      cases hlv : ltOf cf dk[h]! dk[a]! with
      | true =>
        have HN : Aside ((∀ h', a + 1 ≤ h' → h' < h + 1 → LL dk[h']! dk[a]!)) := fun h' h1 h2 => by
          have e1 := (HT.out.cross a h (Nat.le_refl _) (by omega) (by omega) (by omega)).1 hlv
          by_cases c : h' = h
          · rw [c]; exact e1
          · exact tr _ _ _ (HT.out.right h' h (by omega) (by omega) (by omega)) e1
        obtain ⟨x3, hx3⟩ : ∃ x, x = dk[h]! := ⟨_, rfl⟩
        obtain ⟨y3, hy3⟩ : ∃ x, x = dk[a]! := ⟨_, rfl⟩
        have l3a := S1.out.ld R (by omega) P (h) (by omega)
        have l3b := S1.out.ld R (by omega) P (a) (by omega)
        rw [← hx3] at l3a
        rw [← hy3] at l3b
        have hc3 := S1.out.cmp HC.out (by omega) x3 y3
        have hv3 : cf x3 y3 < 0 := by rw [hx3, hy3]; exact of_decide_eq_true hlv
        have hd3 : decide (cf x3 y3 < 0) = true := decide_eq_true hv3
        clear hx3 hy3
        go_wp2_with fail
        go_quiet_grown (first | (go_at_fn g; refine Calls.grown_of (hc3 _ _)))
        have S2 : Aside (SWK enc k w0 blk off dk (grow (wr.drewN nq) osq)) := S1.out.grown nq osq
        clear l3a l3b hc3 S1
        generalize grow (wr.drewN nq) osq = w2 at S2 ⊢
        clear nq osq
        go_wp2
        go_roundg (j - (h + 1))
        case measure => omega
        case rel => exact ⟨h + 1, j, by go_num, rfl, by omega, by omega, hjb, Nat.le_refl _, S2, HN.out, HI.out.2⟩
      | false =>
        have HN : Aside ((∀ h', h ≤ h' → h' < b → LL dk[a]! dk[h']!)) := fun h' h1 h2 => by
          have e1 := (HT.out.cross a h (Nat.le_refl _) (by omega) (by omega) (by omega)).2 hlv
          by_cases c : h' = h
          · rw [c]; exact e1
          · exact tr _ _ _ e1 (HT.out.right h h' (by omega) (by omega) (by omega))
        obtain ⟨x3, hx3⟩ : ∃ x, x = dk[h]! := ⟨_, rfl⟩
        obtain ⟨y3, hy3⟩ : ∃ x, x = dk[a]! := ⟨_, rfl⟩
        have l3a := S1.out.ld R (by omega) P (h) (by omega)
        have l3b := S1.out.ld R (by omega) P (a) (by omega)
        rw [← hx3] at l3a
        rw [← hy3] at l3b
        have hc3 := S1.out.cmp HC.out (by omega) x3 y3
        have hv3 : ¬ cf x3 y3 < 0 := by rw [hx3, hy3]; exact of_decide_eq_false hlv
        have hd3 : decide (cf x3 y3 < 0) = false := decide_eq_false hv3
        clear hx3 hy3
        go_wp2_with fail
        go_quiet_grown (first | (go_at_fn g; refine Calls.grown_of (hc3 _ _)))
        have S2 : Aside (SWK enc k w0 blk off dk (grow (wr.drewN nq) osq)) := S1.out.grown nq osq
        clear l3a l3b hc3 S1
        generalize grow (wr.drewN nq) osq = w2 at S2 ⊢
        clear nq osq
        go_wp2
        go_roundg (h - i)
        case measure => omega
        case rel => exact ⟨i, h, rfl, by go_num, hi, by omega, by omega, Nat.le_refl _, S2, HI.out.1, HN.out⟩
    · obtain rfl : i = j := by omega
      have hltz : ¬ (i : Int) < (i : Int) := by omega
      go_wp2
      go_loopg [13] (i - a) (fun kx s13 wr => ∃ (t : Nat) (dt : Array α), s13 = .int .i64 t ∧ a ≤ t ∧ t ≤ i - 1 ∧ i - 1 - t ≤ kx ∧ dt.size = d0.size ∧ Aside (SWK enc k w0 blk off dt wr) ∧ Aside (dt = mkA dk (rotF a (a + 1) (t + 1))))
      case atStart => exact ⟨a, dk, rfl, Nat.le_refl _, by omega, by omega, hds, S1, (rot_none dk (.inr rfl) (by omega) (by omega)).symm⟩
      case round =>
        clear S1
        obtain ⟨t, dt, rfl, hat, hti, hkx2, hdt, S3, HE⟩ := hrel
        by_cases hlt : t < i - 1
        · have hltz2 : (t : Int) < (i : Int) - 1 := by omega
          have wz1 : IntKind.i64.wrap ((i : Int) - 1) = (i : Int) - 1 := by rw [IntKind.wrap_i64]; omega
          go_wp2_with fail
          have ea1 : ((t : Int)).toNat = t := by omega
          have pa1 : (0 : Int) ≤ (t : Int) := by omega
          have ba1 : (t : Int) < (d0.size : Int) := by omega
          have ra1 : IntKind.i64.wrap ((t : Int)) = (t : Int) := by rw [IntKind.wrap_i64]; omega
          have ea2 : ((t : Int) + 1).toNat = t + 1 := by omega
          have pa2 : (0 : Int) ≤ (t : Int) + 1 := by omega
          have ba2 : (t : Int) + 1 < (d0.size : Int) := by omega
          have ra2 : IntKind.i64.wrap ((t : Int) + 1) = (t : Int) + 1 := by rw [IntKind.wrap_i64]; omega
          have S2 : Aside (SWK enc k w0 blk off (swp dt (t) (t + 1)) ((wr.drew.setCells blk (off + (t) * k) (enc dt[t + 1]!)).setCells blk (off + (t + 1) * k) (enc dt[t]!))) := S3.out.swapped R (t) (t + 1) (by omega) (by omega)
          have l4a := S3.out.ld1 R (by omega) P (t) (by omega)
          have l4b := S3.out.ld1 R (by omega) P (t + 1) (by omega)
          have s4a := S3.out.st1 R (by omega) P (t) (by omega) dt[t + 1]!
          have s4b := S3.out.st2 R (by omega) P (t) (t + 1) (by omega) (by omega) dt[t + 1]! dt[t]!
          have n4a : (enc dt[t]!).length = k := R.hk _
          have n4b : (enc dt[t + 1]!).length = k := R.hk _
          generalize enc dt[t]! = cI at S2 l4a s4b n4a
          generalize enc dt[t + 1]! = cJ at S2 l4b s4a s4b n4b
          clear S3
          go_wp2_with fail
          go_big_region_o
          clear l4a l4b s4a s4b
          generalize (wr.drew.setCells blk (off + (t) * k) cJ).setCells blk (off + (t + 1) * k) cI = w2 at S2 ⊢
          go_wp2
          go_roundg (i - 1 - (t + 1))
          case measure => omega
          case rel => exact ⟨t + 1, swp dt t (t + 1), by go_num, by omega, by omega, Nat.le_refl _, by rw [size_swp]; exact hdt, S2, by show _ = _; rw [HE.out]; exact rot_up dk hat (by omega)⟩
        · have hltz2 : ¬ (t : Int) < (i : Int) - 1 := by omega
          have wz1 : IntKind.i64.wrap ((i : Int) - 1) = (i : Int) - 1 := by rw [IntKind.wrap_i64]; omega
          obtain rfl : t = i - 1 := by omega
          go_wp2
          first | go_end0 | (simp only [Exit.inBlock, Exit.then]; refine bodyPost_ret (results_none rfl _ _ _) rfl ?_) | (refine bodyPost_ret (results_none rfl _ _ _) rfl ?_)
          refine ⟨rfl, dt, S3.out, ?_, ?_⟩
          · rw [HE.out, show i - 1 + 1 = i by omega]
            exact permIn_mono _ _ a i a b (Nat.le_refl _) hjb (by omega) (rot_perm dk (by omega) (by omega) (by omega))
          · rw [HE.out, show i - 1 + 1 = i by omega]
            exact one_left HT.out hi hjb (by omega) HI.out.1 HI.out.2

set_option maxHeartbeats 8000000 in
set_option maxRecDepth 1000000 in
/-- One behind many. -/
theorem kSym_right (L : StabT P) (FG : P.funcs[117]? = some Tryz.f117)
    (k : Nat) (aE : ∀ w, (isAgg 67).run P w = .ok true w) (zE : ∀ w, (Go.sizeOf 67).run P w = .ok k w) (enc : α → List Value) (cf : α → α → Int) (g : Nat) (cb : Array Value) (blk off cap : Nat) (d0 : Array α) (w0 : World)
    (eg : ∀ args w, (callFunc g args).run P w = .ok (.enter g args) w) (hcmp : CmpLays P g cb enc k cf blk off d0.size w0) (R : RowK enc k w0 blk off d0) (hsz : d0.size < 4611686018427387904) (LL : α → α → Prop) (tr : ∀ x y z, LL x y → LL y z → LL x z)
    (a m : Nat) (dk : Array α) (w : World) (hds : dk.size = d0.size) (S : SWK enc k w0 blk off dk w) (ham : a + 1 < m) (hT : TwoL (ltOf cf) LL a m (m + 1) dk) (b : Nat) (hm : b = m + 1) (hb : b ≤ d0.size) :
    Calls P 117 #[.slice (some ⟨blk, off, none⟩) d0.size cap, .int .i64 a, .int .i64 m, .int .i64 b, .func (.func g) #[] cb] w fun e w' => e = .returned (.tuple #[]) ∧ ∃ d', SWK enc k w0 blk off d' w' ∧ PermIn a b dk d' ∧ SortL LL a b d' := by
  have mixed := L.mixed; have t0 := L.t0; have a0 := L.a0; have z0 := L.z0; have v0 := L.v0; have t3 := L.t3; have a3 := L.a3; have z3 := L.z3; have v3 := L.v3; have t4 := L.t4; have a4 := L.a4; have z4 := L.z4; have v4 := L.v4; have t22 := L.t22; have a22 := L.a22; have z22 := L.z22; have v22 := L.v22; have t25 := L.t25; have a25 := L.a25; have z25 := L.z25; have v25 := L.v25; have t39 := L.t39; have a39 := L.a39; have z39 := L.z39; have v39 := L.v39
  have S0 : Aside (SWK enc k w0 blk off dk w) := S
  have HC : Aside (CmpLays P g cb enc k cf blk off d0.size w0) := hcmp
  have HT : Aside (TwoL (ltOf cf) LL a m (m + 1) dk) := hT
  clear S hcmp hT
  have hm1 : b ≤ m + 1 := by omega
  have hm2 : m + 1 ≤ b := by omega
  have hmq : ((m : Int) - (a : Int) == 1) = false := by rw [beq_eq_false_iff_ne]; omega
  have hmq2 : ((b : Int) - (m : Int) == 1) = true := by rw [beq_iff_eq]; omega
  have HM := Lib.hid hm
  clear hm
  go_enter FG, Tryz.ntmps117
  go_wp2
  go_loopg [14, 15] (b - a) (fun kx s10 s11 wr => ∃ (i j : Nat), s10 = .int .i64 i ∧ s11 = .int .i64 j ∧ a ≤ i ∧ i ≤ j ∧ j ≤ m ∧ j - i ≤ kx ∧ Aside (SWK enc k w0 blk off dk wr) ∧ Aside ((∀ h, a ≤ h → h < i → LL dk[h]! dk[m]!) ∧ (∀ h, j ≤ h → h < m → LL dk[m]! dk[h]!)))
  case atStart => exact ⟨a, m, rfl, rfl, by omega, by omega, Nat.le_refl _, by omega, S0, fun h h1 h2 => by omega, fun h h1 h2 => by omega⟩
  case round =>
    clear S0
    obtain ⟨i, j, rfl, rfl, hi, hij, hjb, hkx, S1, HI⟩ := hrel
    by_cases hlt : i < j
    · have hltz : (i : Int) < (j : Int) := by omega
      obtain ⟨h, hh⟩ : ∃ h, h = (i + j) / 2 := ⟨_, rfl⟩
      have hh1 : i ≤ h := by omega
      have hh2 : h < j := by omega
      have hw1 : IntKind.i64.wrap ((i : Int) + (j : Int)) = (i : Int) + (j : Int) := by rw [IntKind.wrap_i64]; omega
      have hw2 : IntKind.u64.wrap ((i : Int) + (j : Int)) = (i : Int) + (j : Int) := by simp [IntKind.wrap, IntKind.bits, IntKind.signed]; omega
      have hw3 : IntKind.u64.wrap (((i : Int) + (j : Int)) / 2) = ((h : Nat) : Int) := by simp [IntKind.wrap, IntKind.bits, IntKind.signed]; omega
      have hw4 : IntKind.i64.wrap ((h : Nat) : Int) = ((h : Nat) : Int) := by rw [IntKind.wrap_i64]; omega
      have hw5 : ((i : Int) + (j : Int)) / 2 = ((h : Nat) : Int) := by omega
      have hw6 : IntKind.i64.wrap (((i : Int) + (j : Int)) / 2) = ((h : Nat) : Int) := by rw [IntKind.wrap_i64]; omega
      clear hh
      have ea1 : ((h : Int)).toNat = h := by omega
      have pa1 : (0 : Int) ≤ (h : Int) := by omega
      have ba1 : (h : Int) < (d0.size : Int) := by omega
      have ra1 : IntKind.i64.wrap ((h : Int)) = (h : Int) := by rw [IntKind.wrap_i64]; omega
      have ea2 : ((m : Int)).toNat = m := by omega
      have pa2 : (0 : Int) ≤ (m : Int) := by omega
      have ba2 : (m : Int) < (d0.size : Int) := by omega
      have ra2 : IntKind.i64.wrap ((m : Int)) = (m : Int) := by rw [IntKind.wrap_i64]; omega
      cases hlv : ltOf cf dk[m]! dk[h]! with
      | true =>
        have HN : Aside ((∀ h', h ≤ h' → h' < m → LL dk[m]! dk[h']!)) := fun h' h1 h2 => by
          have e1 := (HT.out.cross h m (by omega) (by omega) (Nat.le_refl _) (by omega)).1 hlv
          by_cases c : h' = h
          · rw [c]; exact e1
          · exact tr _ _ _ e1 (HT.out.left h h' (by omega) (by omega) (by omega))
        obtain ⟨x3, hx3⟩ : ∃ x, x = dk[m]! := ⟨_, rfl⟩
        obtain ⟨y3, hy3⟩ : ∃ x, x = dk[h]! := ⟨_, rfl⟩
        have l3a := S1.out.ld R (by omega) P (m) (by omega)
        have l3b := S1.out.ld R (by omega) P (h) (by omega)
        rw [← hx3] at l3a
        rw [← hy3] at l3b
        have hc3 := S1.out.cmp HC.out (by omega) x3 y3
        have hv3 : cf x3 y3 < 0 := by rw [hx3, hy3]; exact of_decide_eq_true hlv
        have hd3 : decide (cf x3 y3 < 0) = true := decide_eq_true hv3
        clear hx3 hy3
        go_wp2_with fail
        go_quiet_grown (first | (go_at_fn g; refine Calls.grown_of (hc3 _ _)))
        have S2 : Aside (SWK enc k w0 blk off dk (grow (wr.drewN nq) osq)) := S1.out.grown nq osq
        clear l3a l3b hc3 S1
        generalize grow (wr.drewN nq) osq = w2 at S2 ⊢
        clear nq osq
        go_wp2
        go_roundg (h - i)
        case measure => omega
        case rel => exact ⟨i, h, rfl, by go_num, hi, by omega, by omega, Nat.le_refl _, S2, HI.out.1, HN.out⟩
      | false =>
        have HN : Aside ((∀ h', a ≤ h' → h' < h + 1 → LL dk[h']! dk[m]!)) := fun h' h1 h2 => by
          have e1 := (HT.out.cross h m (by omega) (by omega) (Nat.le_refl _) (by omega)).2 hlv
          by_cases c : h' = h
          · rw [c]; exact e1
          · exact tr _ _ _ (HT.out.left h' h (by omega) (by omega) (by omega)) e1
        obtain ⟨x3, hx3⟩ : ∃ x, x = dk[m]! := ⟨_, rfl⟩
        obtain ⟨y3, hy3⟩ : ∃ x, x = dk[h]! := ⟨_, rfl⟩
        have l3a := S1.out.ld R (by omega) P (m) (by omega)
        have l3b := S1.out.ld R (by omega) P (h) (by omega)
        rw [← hx3] at l3a
        rw [← hy3] at l3b
        have hc3 := S1.out.cmp HC.out (by omega) x3 y3
        have hv3 : ¬ cf x3 y3 < 0 := by rw [hx3, hy3]; exact of_decide_eq_false hlv
        have hd3 : decide (cf x3 y3 < 0) = false := decide_eq_false hv3
        clear hx3 hy3
        go_wp2_with fail
        go_quiet_grown (first | (go_at_fn g; refine Calls.grown_of (hc3 _ _)))
        have S2 : Aside (SWK enc k w0 blk off dk (grow (wr.drewN nq) osq)) := S1.out.grown nq osq
        clear l3a l3b hc3 S1
        generalize grow (wr.drewN nq) osq = w2 at S2 ⊢
        clear nq osq
        go_wp2
        go_roundg (j - (h + 1))
        case measure => omega
        case rel => exact ⟨h + 1, j, by go_num, rfl, by omega, by omega, hjb, Nat.le_refl _, S2, HN.out, HI.out.2⟩
    · obtain rfl : i = j := by omega
      have hltz : ¬ (i : Int) < (i : Int) := by omega
      go_wp2
      go_loopg [17] (b - a) (fun kx s13 wr => ∃ (t : Nat) (dt : Array α), s13 = .int .i64 t ∧ i ≤ t ∧ t ≤ m ∧ t - i ≤ kx ∧ dt.size = d0.size ∧ Aside (SWK enc k w0 blk off dt wr) ∧ Aside (dt = mkA dk (rotF t m (m + 1))))
      case atStart => exact ⟨m, dk, rfl, by omega, Nat.le_refl _, by omega, hds, S1, (rot_none dk (.inl rfl) (by omega) (by omega)).symm⟩
      case round =>
        clear S1
        obtain ⟨t, dt, rfl, hat, hti, hkx2, hdt, S3, HE⟩ := hrel
        by_cases hlt : i < t
        · obtain ⟨u, hu⟩ : ∃ u, u = t - 1 := ⟨_, rfl⟩
          have hltz2 : (i : Int) < (t : Int) := by omega
          go_wp2_with fail
          have ea1 : ((t : Int)).toNat = t := by omega
          have pa1 : (0 : Int) ≤ (t : Int) := by omega
          have ba1 : (t : Int) < (d0.size : Int) := by omega
          have ra1 : IntKind.i64.wrap ((t : Int)) = (t : Int) := by rw [IntKind.wrap_i64]; omega
          have ea2 : ((t : Int) - 1).toNat = u := by omega
          have pa2 : (0 : Int) ≤ (t : Int) - 1 := by omega
          have ba2 : (t : Int) - 1 < (d0.size : Int) := by omega
          have ra2 : IntKind.i64.wrap ((t : Int) - 1) = (t : Int) - 1 := by rw [IntKind.wrap_i64]; omega
          have hut : u + 1 ≤ t ∧ t ≤ u + 1 := by omega
          have HU := Lib.hid hu
          clear hu
          have S2 : Aside (SWK enc k w0 blk off (swp dt (t) (u)) ((wr.drew.setCells blk (off + (t) * k) (enc dt[u]!)).setCells blk (off + (u) * k) (enc dt[t]!))) := S3.out.swapped R (t) (u) (by omega) (by omega)
          have l4a := S3.out.ld1 R (by omega) P (t) (by omega)
          have l4b := S3.out.ld1 R (by omega) P (u) (by omega)
          have s4a := S3.out.st1 R (by omega) P (t) (by omega) dt[u]!
          have s4b := S3.out.st2 R (by omega) P (t) (u) (by omega) (by omega) dt[u]! dt[t]!
          have n4a : (enc dt[t]!).length = k := R.hk _
          have n4b : (enc dt[u]!).length = k := R.hk _
          generalize enc dt[t]! = cI at S2 l4a s4b n4a
          generalize enc dt[u]! = cJ at S2 l4b s4a s4b n4b
          clear S3
          go_wp2_with fail
          go_big_region_o
          clear l4a l4b s4a s4b
          generalize (wr.drew.setCells blk (off + (t) * k) cJ).setCells blk (off + (u) * k) cI = w2 at S2 ⊢
          go_wp2
          go_roundg (u - i)
          case measure => omega
          case rel => exact ⟨u, swp dt t u, by first | go_num | (congr 1; omega), by omega, by omega, Nat.le_refl _, by rw [size_swp]; exact hdt, S2, by show _ = _; rw [HE.out, show t = u + 1 by omega]; exact rot_down dk (by omega) (by omega)⟩
        · have hltz2 : ¬ (i : Int) < (t : Int) := by omega
          obtain rfl : i = t := by omega
          go_wp2
          first | go_end0 | (simp only [Exit.inBlock, Exit.then]; refine bodyPost_ret (results_none rfl _ _ _) rfl ?_) | (refine bodyPost_ret (results_none rfl _ _ _) rfl ?_)
          refine ⟨rfl, dt, S3.out, ?_, ?_⟩
          · rw [HE.out, HM.out]
            exact permIn_mono _ _ i (m + 1) a (m + 1) (by omega) (Nat.le_refl _) (by omega) (rot_perm dk (by omega) (by omega) (by omega))
          · rw [HE.out, HM.out]
            exact one_right HT.out (by omega) (by omega) (by omega) HI.out.1 HI.out.2

end Go.Proofs.YtmanjegdgjeeiaaGreatDoor
