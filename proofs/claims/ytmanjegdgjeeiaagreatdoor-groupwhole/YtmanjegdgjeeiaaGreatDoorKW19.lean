/-
  What the library's symMerge does at a row of keyed alerts: two rising rows, put into one.
-/
import Derived.Test.YtmanjegdgjeeiaaGreatDoorKW18
namespace Go.Proofs.YtmanjegdgjeeiaaGreatDoor
open Go.Shelf Go.RowKit Go.Lib Go.Sort
variable {P : Program} {α : Type} [Inhabited α]

set_option maxHeartbeats 16000000 in
set_option maxRecDepth 1000000 in
/-- Many and many. -/
theorem kSym_great (FW : P.funcs[150]? = some Tryz.f150) (FR : P.funcs[133]? = some Tryz.f133) (e91 : ∀ args w, (callFunc 150 args).run P w = .ok (.enter 150 args) w) (e80 : ∀ args w, (callFunc 133 args).run P w = .ok (.enter 133 args) w) (e68 : ∀ args w, (callFunc 117 args).run P w = .ok (.enter 117 args) w) (L : StabT P) (FG : P.funcs[117]? = some Tryz.f117)
    (k : Nat) (aE : ∀ w, (isAgg 67).run P w = .ok true w) (zE : ∀ w, (Go.sizeOf 67).run P w = .ok k w) (enc : α → List Value) (cf : α → α → Int) (g : Nat) (cb : Array Value) (blk off cap : Nat) (d0 : Array α) (w0 : World)
    (eg : ∀ args w, (callFunc g args).run P w = .ok (.enter g args) w) (hcmp : CmpLays P g cb enc k cf blk off d0.size w0) (R : RowK enc k w0 blk off d0) (hsz : d0.size < 4611686018427387904) (LL : α → α → Prop) (tr : ∀ x y z, LL x y → LL y z → LL x z)
    (N : Nat) (IH : ∀ (a m b : Nat) (dk : Array α) (w : World), b - a ≤ N → dk.size = d0.size → SWK enc k w0 blk off dk w → a < m → m < b → b ≤ d0.size → TwoL (ltOf cf) LL a m b dk →
    Calls P 117 #[.slice (some ⟨blk, off, none⟩) d0.size cap, .int .i64 a, .int .i64 m, .int .i64 b, .func (.func g) #[] cb] w fun e w' => e = .returned (.tuple #[]) ∧ ∃ d', SWK enc k w0 blk off d' w' ∧ PermIn a b dk d' ∧ SortL LL a b d')
    (a m b mid : Nat) (dk : Array α) (w : World) (hN : b - a ≤ N + 1) (hds : dk.size = d0.size) (S : SWK enc k w0 blk off dk w) (ham : a + 1 < m) (hmb : m + 1 < b) (hb : b ≤ d0.size) (hT : TwoL (ltOf cf) LL a m b dk) (hmid : mid = (a + b) / 2) (hgt : mid < m) :
    Calls P 117 #[.slice (some ⟨blk, off, none⟩) d0.size cap, .int .i64 a, .int .i64 m, .int .i64 b, .func (.func g) #[] cb] w fun e w' => e = .returned (.tuple #[]) ∧ ∃ d', SWK enc k w0 blk off d' w' ∧ PermIn a b dk d' ∧ SortL LL a b d' := by
  have mixed := L.mixed; have t0 := L.t0; have a0 := L.a0; have z0 := L.z0; have v0 := L.v0; have t3 := L.t3; have a3 := L.a3; have z3 := L.z3; have v3 := L.v3; have t4 := L.t4; have a4 := L.a4; have z4 := L.z4; have v4 := L.v4; have t22 := L.t22; have a22 := L.a22; have z22 := L.z22; have v22 := L.v22; have t25 := L.t25; have a25 := L.a25; have z25 := L.z25; have v25 := L.v25; have t39 := L.t39; have a39 := L.a39; have z39 := L.z39; have v39 := L.v39
  have S0 : Aside (SWK enc k w0 blk off dk w) := S
  have HC : Aside (CmpLays P g cb enc k cf blk off d0.size w0) := hcmp
  have HT : Aside (TwoL (ltOf cf) LL a m b dk) := hT
  have HI : Aside (∀ (a m b : Nat) (dk : Array α) (w : World), b - a ≤ N → dk.size = d0.size → SWK enc k w0 blk off dk w → a < m → m < b → b ≤ d0.size → TwoL (ltOf cf) LL a m b dk → Calls P 117 #[.slice (some ⟨blk, off, none⟩) d0.size cap, .int .i64 a, .int .i64 m, .int .i64 b, .func (.func g) #[] cb] w fun e w' => e = .returned (.tuple #[]) ∧ ∃ d', SWK enc k w0 blk off d' w' ∧ PermIn a b dk d' ∧ SortL LL a b d') := IH
  have HR : Aside (∀ (a m b : Nat) (dk : Array α) (w : World), dk.size = d0.size → SWK enc k w0 blk off dk w → a < m → m < b → b ≤ d0.size → Calls P 133 #[.slice (some ⟨blk, off, none⟩) d0.size cap, .int .i64 a, .int .i64 m, .int .i64 b, .func (.func g) #[] cb] w fun e w' => e = .returned (.tuple #[]) ∧ SWK enc k w0 blk off (mkA dk (rotF a m b)) w') :=
    fun a m b dk w h1 h2 h3 h4 h5 => by rw [← h1]; exact kRot_any L FW FR k aE zE enc _ blk off cap a m b d0 dk w0 w e91 R (by omega) h2 h3 h4 (by omega) (by omega)
  clear S hcmp hT IH FW FR
  have hm3 : a < mid := by omega
  have hm4 : mid < b := by omega
  have hm5 : 2 * mid ≤ a + b := by omega
  have hm6 : a + b ≤ 2 * mid + 1 := by omega
  have hw1 : IntKind.i64.wrap ((a : Int) + (b : Int)) = (a : Int) + (b : Int) := by rw [IntKind.wrap_i64]; omega
  have hw2 : IntKind.u64.wrap ((a : Int) + (b : Int)) = (a : Int) + (b : Int) := by simp [IntKind.wrap, IntKind.bits, IntKind.signed]; omega
  have hw3 : IntKind.u64.wrap (((a : Int) + (b : Int)) / 2) = ((mid : Nat) : Int) := by simp [IntKind.wrap, IntKind.bits, IntKind.signed]; omega
  have hw4 : IntKind.i64.wrap ((mid : Nat) : Int) = ((mid : Nat) : Int) := by rw [IntKind.wrap_i64]; omega
  have hw5 : ((a : Int) + (b : Int)) / 2 = ((mid : Nat) : Int) := by omega
  have hw6 : IntKind.i64.wrap (((a : Int) + (b : Int)) / 2) = ((mid : Nat) : Int) := by rw [IntKind.wrap_i64]; omega
  have HM := Lib.hid hmid
  clear hmid
  have hmq : ((m : Int) - (a : Int) == 1) = false := by rw [beq_eq_false_iff_ne]; omega
  have hmq2 : ((b : Int) - (m : Int) == 1) = false := by rw [beq_eq_false_iff_ne]; omega
  have hgz : (mid : Int) < (m : Int) := by omega
  obtain ⟨s0, hs0⟩ : ∃ x, x = (mid + m - b) := ⟨_, rfl⟩
  obtain ⟨r0, hr0⟩ : ∃ x, x = mid := ⟨_, rfl⟩
  have HS0 : Aside (((mid < m ∧ s0 = mid + m - b ∧ r0 = mid) ∨ (m ≤ mid ∧ s0 = a ∧ r0 = m)) ) := .inl ⟨hgt, hs0, hr0⟩
  have hx5 : a ≤ s0 := by omega
  have hx6 : r0 ≤ m := by omega
  have hx7 : s0 ≤ r0 := by omega
  have hx3 : mid + m ≤ b + s0 := by omega
  have hx4 : r0 ≤ mid := by omega
  have HS1 := Lib.hid (And.intro hs0 hr0)
  clear hs0 hr0
  go_enter FG, Tryz.ntmps117
  go_wp2
  go_loopg [20, 21] (b - a) (fun kx s10 s11 wr => ∃ (i j : Nat), s10 = .int .i64 i ∧ s11 = .int .i64 j ∧ s0 ≤ i ∧ i ≤ j ∧ j ≤ r0 ∧ j - i ≤ kx ∧ Aside (SWK enc k w0 blk off dk wr) ∧ Aside ((∀ c, s0 ≤ c → c < i → LL dk[c]! dk[mid + m - 1 - c]!) ∧ (∀ c, j ≤ c → c < r0 → LL dk[mid + m - 1 - c]! dk[c]!)))
  case atStart => exact ⟨s0, r0, by have h1 := HS1.out.1; first | (rw [h1]; done) | (congr 1; omega), by have h1 := HS1.out.2; rw [h1], Nat.le_refl _, hx7, Nat.le_refl _, by omega, S0, fun c h1 h2 => by omega, fun c h1 h2 => by omega⟩
  case round =>
    clear S0
    obtain ⟨i, j, rfl, rfl, hi, hij, hjb, hkx, S1, HJ⟩ := hrel
    have hx1 : a ≤ i := by omega
    have hx2 : j ≤ m := by omega
    by_cases hlt : i < j
    · have hltz : (i : Int) < (j : Int) := by omega
      obtain ⟨h, hh⟩ : ∃ h, h = (i + j) / 2 := ⟨_, rfl⟩
      have hh1 : i ≤ h := by omega
      have hh2 : h < j := by omega
      have hy1 : IntKind.i64.wrap ((i : Int) + (j : Int)) = (i : Int) + (j : Int) := by rw [IntKind.wrap_i64]; omega
      have hy2 : IntKind.u64.wrap ((i : Int) + (j : Int)) = (i : Int) + (j : Int) := by simp [IntKind.wrap, IntKind.bits, IntKind.signed]; omega
      have hy3 : IntKind.u64.wrap (((i : Int) + (j : Int)) / 2) = ((h : Nat) : Int) := by simp [IntKind.wrap, IntKind.bits, IntKind.signed]; omega
      have hy4 : IntKind.i64.wrap ((h : Nat) : Int) = ((h : Nat) : Int) := by rw [IntKind.wrap_i64]; omega
      have hy5 : ((i : Int) + (j : Int)) / 2 = ((h : Nat) : Int) := by omega
      have hy6 : IntKind.i64.wrap (((i : Int) + (j : Int)) / 2) = ((h : Nat) : Int) := by rw [IntKind.wrap_i64]; omega
      clear hh
      obtain ⟨y, hy⟩ : ∃ y, y = mid + m - 1 - h := ⟨_, rfl⟩
      have hq1 : y + h + 1 ≤ mid + m ∧ mid + m ≤ y + h + 1 := by omega
      have HY := Lib.hid hy
      clear hy
      have ea1 : ((h : Int)).toNat = h := by omega
      have pa1 : (0 : Int) ≤ (h : Int) := by omega
      have ba1 : (h : Int) < (d0.size : Int) := by omega
      have ra1 : IntKind.i64.wrap ((h : Int)) = (h : Int) := by rw [IntKind.wrap_i64]; omega
      have ea2 : ((y : Int)).toNat = y := by omega
      have pa2 : (0 : Int) ≤ (y : Int) := by omega
      have ba2 : (y : Int) < (d0.size : Int) := by omega
      have ra2 : IntKind.i64.wrap ((y : Int)) = (y : Int) := by rw [IntKind.wrap_i64]; omega
      have rb2 : IntKind.i64.wrap ((mid : Int) + (m : Int) - 1 - (h : Int)) = (y : Int) := by rw [IntKind.wrap_i64]; omega
      cases hlv : ltOf cf dk[y]! dk[h]! with
      | true =>
        have HN : Aside (∀ c, h ≤ c → c < r0 → LL dk[mid + m - 1 - c]! dk[c]!) := fun c h1 h2 => by
          have e1 := (HT.out.cross h y (by omega) (by omega) (by omega) (by omega)).1 hlv
          by_cases cc : c = h
          · rw [cc, ← HY.out]; exact e1
          · exact tr _ _ _ (tr _ _ _ (HT.out.right (mid + m - 1 - c) y (by omega) (by omega) (by omega)) e1) (HT.out.left h c (by omega) (by omega) (by omega))
        obtain ⟨x3, hx3⟩ : ∃ x, x = dk[y]! := ⟨_, rfl⟩
        obtain ⟨y3, hy3⟩ : ∃ x, x = dk[h]! := ⟨_, rfl⟩
        have l3a := S1.out.ld R (by omega) P (y) (by omega)
        have l3b := S1.out.ld R (by omega) P (h) (by omega)
        rw [← hx3] at l3a
        rw [← hy3] at l3b
        have hc3 := S1.out.cmp HC.out (by omega) x3 y3
        have hv3 : cf x3 y3 < 0 := by rw [hx3, hy3]; exact of_decide_eq_true hlv
        have hd3 : decide (cf x3 y3 < 0) = true := decide_eq_true hv3
        clear hx3 hy3
        go_wp2_with fail
        go_quiet_grown (first | (go_at_fn g; refine Calls.grown_of (hc3 _ _)))
        have S2 : Aside (SWK enc k w0 blk off dk (grow (wr.drewN nq) osq)) := S1.out.grown nq osq
        clear l3a l3b hc3 S1
        generalize grow (wr.drewN nq) osq = w2 at S2 ⊢
        clear nq osq
        go_wp2
        go_roundg (h - i)
        case measure => omega
        case rel => exact ⟨i, h, rfl, by go_num, hi, by omega, by omega, Nat.le_refl _, S2, HJ.out.1, HN.out⟩
      | false =>
        have HN : Aside (∀ c, s0 ≤ c → c < h + 1 → LL dk[c]! dk[mid + m - 1 - c]!) := fun c h1 h2 => by
          have e1 := (HT.out.cross h y (by omega) (by omega) (by omega) (by omega)).2 hlv
          by_cases cc : c = h
          · rw [cc, ← HY.out]; exact e1
          · exact tr _ _ _ (tr _ _ _ (HT.out.left c h (by omega) (by omega) (by omega)) e1) (HT.out.right y (mid + m - 1 - c) (by omega) (by omega) (by omega))
        obtain ⟨x3, hx3⟩ : ∃ x, x = dk[y]! := ⟨_, rfl⟩
        obtain ⟨y3, hy3⟩ : ∃ x, x = dk[h]! := ⟨_, rfl⟩
        have l3a := S1.out.ld R (by omega) P (y) (by omega)
        have l3b := S1.out.ld R (by omega) P (h) (by omega)
        rw [← hx3] at l3a
        rw [← hy3] at l3b
        have hc3 := S1.out.cmp HC.out (by omega) x3 y3
        have hv3 : ¬ cf x3 y3 < 0 := by rw [hx3, hy3]; exact of_decide_eq_false hlv
        have hd3 : decide (cf x3 y3 < 0) = false := decide_eq_false hv3
        clear hx3 hy3
        go_wp2_with fail
        go_quiet_grown (first | (go_at_fn g; refine Calls.grown_of (hc3 _ _)))
        have S2 : Aside (SWK enc k w0 blk off dk (grow (wr.drewN nq) osq)) := S1.out.grown nq osq
        clear l3a l3b hc3 S1
        generalize grow (wr.drewN nq) osq = w2 at S2 ⊢
        clear nq osq
        go_wp2
        go_roundg (j - (h + 1))
        case measure => omega
        case rel => exact ⟨h + 1, j, by go_num, rfl, by omega, by omega, hjb, Nat.le_refl _, S2, HN.out, HJ.out.2⟩
    · obtain rfl : i = j := by omega
      have hltz : ¬ (i : Int) < (i : Int) := by omega
      obtain ⟨hcut, hme⟩ := cut_of tr HT.out (by omega) (by omega) HM.out HS0.out hi hjb HJ.out.1 HJ.out.2
      obtain ⟨e, he⟩ : ∃ e, e = mid + m - i := ⟨_, rfl⟩
      rw [← he] at hcut hme
      have hi1 := hcut.sa; have hi2 := hcut.sm; have hi3 := hcut.me; have hi4 := hcut.eb
      have hz1 : e + i ≤ mid + m ∧ mid + m ≤ e + i := by omega
      have ez : ((e : Nat) : Int) = (mid : Int) + (m : Int) - (i : Int) := by omega
      have T1 := hcut.first HT.out (by omega)
      have T2 := hcut.last HT.out (by omega)
      have T3 := hcut.apart HT.out (by omega)
      rw [hme] at T1 T2 T3
      have hrp := permIn_mono _ _ i e a b hi1 hi4 (by omega) (rot_perm dk (by omega) (by omega) (show e ≤ dk.size by omega))
      have hrn : ¬ (i < m ∧ m < e) → mkA dk (rotF i m e) = dk := fun hn => rot_none dk (by omega) hi2 hi3
      have hrs : (mkA dk (rotF i m e)).size = d0.size := by rw [mkA_size]; exact hds
      have HRR : Aside (i < m → m < e → Calls P 133 #[.slice (some ⟨blk, off, none⟩) d0.size cap, .int .i64 i, .int .i64 m, .int .i64 ((mid : Int) + (m : Int) - (i : Int)), .func (.func g) #[] cb] wr fun e1 w' => e1 = .returned (.tuple #[]) ∧ SWK enc k w0 blk off (mkA dk (rotF i m e)) w') := fun h1 h2 => by
        have := HR.out i m e dk wr hds S1.out h1 h2 (by omega)
        rw [ez] at this
        exact this
      have HCA : Aside (∀ dr w1, dr.size = d0.size → SWK enc k w0 blk off dr w1 → TwoL (ltOf cf) LL a i mid dr → a < i → i < mid → Calls P 117 #[.slice (some ⟨blk, off, none⟩) d0.size cap, .int .i64 a, .int .i64 i, .int .i64 mid, .func (.func g) #[] cb] w1 fun e1 w' => e1 = .returned (.tuple #[]) ∧ ∃ d1, SWK enc k w0 blk off d1 w' ∧ PermIn a mid dr d1 ∧ SortL LL a mid d1) := fun dr w1 h1 h2 h3 h4 h5 => HI.out a i mid dr w1 (by omega) h1 h2 h4 h5 (by omega) h3
      have HCB : Aside (∀ dr w1, dr.size = d0.size → SWK enc k w0 blk off dr w1 → TwoL (ltOf cf) LL mid e b dr → mid < e → e < b → Calls P 117 #[.slice (some ⟨blk, off, none⟩) d0.size cap, .int .i64 mid, .int .i64 ((mid : Int) + (m : Int) - (i : Int)), .int .i64 b, .func (.func g) #[] cb] w1 fun e1 w' => e1 = .returned (.tuple #[]) ∧ ∃ d1, SWK enc k w0 blk off d1 w' ∧ PermIn mid b dr d1 ∧ SortL LL mid b d1) := fun dr w1 h1 h2 h3 h4 h5 => by
        have := HI.out mid e b dr w1 (by omega) h1 h2 h4 h5 (by omega) h3
        rw [ez] at this
        exact this
      have TT := Lib.hid (And.intro T1 (And.intro T2 (And.intro T3 (And.intro hrp (And.intro hrn hrs)))))
      have HF : Aside (∀ dr d1 d2 : Array α, dr = mkA dk (rotF i m e) → PermIn a mid dr d1 → SortL LL a mid d1 → PermIn mid b d1 d2 → SortL LL mid b d2 → PermIn a b dk d2 ∧ SortL LL a b d2) := fun dr d1 d2 h0 h1 h2 h3 h4 => by
        subst h0
        have := SortL.join (by omega) (by omega) (by omega) T3 h1 h2 h3 h4
        exact ⟨permIn_trans _ _ _ _ _ hrp this.2, this.1⟩
      have HEZ := Lib.hid (And.intro ez (And.intro he hme))
      clear T1 T2 T3 hrp hrn hrs hcut hme he ez HR HI HJ HC HT HS0 HS1
      by_cases c1 : i < m ∧ m < e
      · have c1a : (i : Int) < (m : Int) := by omega
        have c1b : (m : Int) < (mid : Int) + (m : Int) - (i : Int) := by omega
        have H1 := Lib.hid (HRR.out c1.1 c1.2)
        go_wp2_with (go_at_call 133; refine H1.out.mono ?_; rintro e1 w4 ⟨rfl, S4x⟩; refine Hid.out ?_)
        refine Lib.hid ?_
        have S4 : Aside (SWK enc k w0 blk off (mkA dk (rotF i m e)) w4) := S4x
        clear S4x S1
        by_cases c2 : a < i ∧ i < mid
        · have c2a : (a : Int) < (i : Int) := by omega
          have c2b : (i : Int) < (mid : Int) := by omega
          have H2 := Lib.hid (HCA.out _ w4 TT.out.2.2.2.2.2 S4.out TT.out.1 c2.1 c2.2)
          go_wp2_with (go_at_call 117; refine H2.out.mono ?_; rintro e1 w5 ⟨rfl, d1, S5x, P5, O5⟩; refine Hid.out ?_)
          refine Lib.hid ?_
          have S5 : Aside (SWK enc k w0 blk off d1 w5) := S5x
          clear S5x
          have hd1 : d1.size = d0.size := P5.1.trans TT.out.2.2.2.2.2
          have HQ := Lib.hid (And.intro P5 O5)
          clear P5 O5 S4
          by_cases c3 : mid < e ∧ e < b
          · have c3a : (mid : Int) < (mid : Int) + (m : Int) - (i : Int) := by omega
            have c3b : (mid : Int) + (m : Int) - (i : Int) < (b : Int) := by omega
            have H3 := Lib.hid (HCB.out d1 w5 hd1 S5.out (TwoL.congr (by omega) (by omega) TT.out.2.1 fun t h1 h2 => HQ.out.1.2.1 t (.inr h1)) c3.1 c3.2)
            go_wp2_with (go_at_call 117; refine H3.out.mono ?_; rintro e1 w6 ⟨rfl, d2, S6, P6, O6⟩; refine Hid.out ?_)
            refine Lib.hid ?_
            go_wp2
            first | go_end0 | (simp only [Exit.inBlock, Exit.then]; refine bodyPost_ret (results_none rfl _ _ _) rfl ?_) | (refine bodyPost_ret (results_none rfl _ _ _) rfl ?_)
            exact ⟨rfl, d2, S6, HF.out _ d1 d2 rfl HQ.out.1 HQ.out.2 P6 O6⟩
          · by_cases c3a : (mid : Int) < (mid : Int) + (m : Int) - (i : Int)
            · have c3b : ¬ (mid : Int) + (m : Int) - (i : Int) < (b : Int) := by omega
              go_wp2
              first | go_end0 | (simp only [Exit.inBlock, Exit.then]; refine bodyPost_ret (results_none rfl _ _ _) rfl ?_) | (refine bodyPost_ret (results_none rfl _ _ _) rfl ?_)
              exact ⟨rfl, d1, S5.out, HF.out _ d1 d1 rfl HQ.out.1 HQ.out.2 (permIn_refl _ _ _) ((TwoL.congr (by omega) (by omega) TT.out.2.1 fun t h1 h2 => HQ.out.1.2.1 t (.inr h1)).whole c3 (by omega) (by omega))⟩
            · go_wp2
              first | go_end0 | (simp only [Exit.inBlock, Exit.then]; refine bodyPost_ret (results_none rfl _ _ _) rfl ?_) | (refine bodyPost_ret (results_none rfl _ _ _) rfl ?_)
              exact ⟨rfl, d1, S5.out, HF.out _ d1 d1 rfl HQ.out.1 HQ.out.2 (permIn_refl _ _ _) ((TwoL.congr (by omega) (by omega) TT.out.2.1 fun t h1 h2 => HQ.out.1.2.1 t (.inr h1)).whole c3 (by omega) (by omega))⟩
        · obtain ⟨d1, hd1e⟩ : ∃ d1, d1 = mkA dk (rotF i m e) := ⟨_, rfl⟩
          obtain ⟨w5, hw5⟩ : ∃ w5, w5 = w4 := ⟨_, rfl⟩
          have S5 : Aside (SWK enc k w0 blk off d1 w5) := by rw [hd1e, hw5]; exact S4
          have hd1 : d1.size = d0.size := by rw [hd1e]; exact TT.out.2.2.2.2.2
          have HQ : Hid (PermIn a mid (mkA dk (rotF i m e)) d1 ∧ SortL LL a mid d1) := Lib.hid (by rw [hd1e]; exact ⟨permIn_refl _ _ _, TT.out.1.whole c2 (by omega) (by omega)⟩)
          subst hw5
          have HD1 := Lib.hid hd1e
          clear hd1e S4
          by_cases c2a : (a : Int) < (i : Int)
          · have c2b : ¬ (i : Int) < (mid : Int) := by omega
            by_cases c3 : mid < e ∧ e < b
            · have c3a : (mid : Int) < (mid : Int) + (m : Int) - (i : Int) := by omega
              have c3b : (mid : Int) + (m : Int) - (i : Int) < (b : Int) := by omega
              have H3 := Lib.hid (HCB.out d1 w5 hd1 S5.out (TwoL.congr (by omega) (by omega) TT.out.2.1 fun t h1 h2 => HQ.out.1.2.1 t (.inr h1)) c3.1 c3.2)
              go_wp2_with (go_at_call 117; refine H3.out.mono ?_; rintro e1 w6 ⟨rfl, d2, S6, P6, O6⟩; refine Hid.out ?_)
              refine Lib.hid ?_
              go_wp2
              first | go_end0 | (simp only [Exit.inBlock, Exit.then]; refine bodyPost_ret (results_none rfl _ _ _) rfl ?_) | (refine bodyPost_ret (results_none rfl _ _ _) rfl ?_)
              exact ⟨rfl, d2, S6, HF.out _ d1 d2 rfl HQ.out.1 HQ.out.2 P6 O6⟩
            · by_cases c3a : (mid : Int) < (mid : Int) + (m : Int) - (i : Int)
              · have c3b : ¬ (mid : Int) + (m : Int) - (i : Int) < (b : Int) := by omega
                go_wp2
                first | go_end0 | (simp only [Exit.inBlock, Exit.then]; refine bodyPost_ret (results_none rfl _ _ _) rfl ?_) | (refine bodyPost_ret (results_none rfl _ _ _) rfl ?_)
                exact ⟨rfl, d1, S5.out, HF.out _ d1 d1 rfl HQ.out.1 HQ.out.2 (permIn_refl _ _ _) ((TwoL.congr (by omega) (by omega) TT.out.2.1 fun t h1 h2 => HQ.out.1.2.1 t (.inr h1)).whole c3 (by omega) (by omega))⟩
              · go_wp2
                first | go_end0 | (simp only [Exit.inBlock, Exit.then]; refine bodyPost_ret (results_none rfl _ _ _) rfl ?_) | (refine bodyPost_ret (results_none rfl _ _ _) rfl ?_)
                exact ⟨rfl, d1, S5.out, HF.out _ d1 d1 rfl HQ.out.1 HQ.out.2 (permIn_refl _ _ _) ((TwoL.congr (by omega) (by omega) TT.out.2.1 fun t h1 h2 => HQ.out.1.2.1 t (.inr h1)).whole c3 (by omega) (by omega))⟩
          · by_cases c3 : mid < e ∧ e < b
            · have c3a : (mid : Int) < (mid : Int) + (m : Int) - (i : Int) := by omega
              have c3b : (mid : Int) + (m : Int) - (i : Int) < (b : Int) := by omega
              have H3 := Lib.hid (HCB.out d1 w5 hd1 S5.out (TwoL.congr (by omega) (by omega) TT.out.2.1 fun t h1 h2 => HQ.out.1.2.1 t (.inr h1)) c3.1 c3.2)
              go_wp2_with (go_at_call 117; refine H3.out.mono ?_; rintro e1 w6 ⟨rfl, d2, S6, P6, O6⟩; refine Hid.out ?_)
              refine Lib.hid ?_
              go_wp2
              first | go_end0 | (simp only [Exit.inBlock, Exit.then]; refine bodyPost_ret (results_none rfl _ _ _) rfl ?_) | (refine bodyPost_ret (results_none rfl _ _ _) rfl ?_)
              exact ⟨rfl, d2, S6, HF.out _ d1 d2 rfl HQ.out.1 HQ.out.2 P6 O6⟩
            · by_cases c3a : (mid : Int) < (mid : Int) + (m : Int) - (i : Int)
              · have c3b : ¬ (mid : Int) + (m : Int) - (i : Int) < (b : Int) := by omega
                go_wp2
                first | go_end0 | (simp only [Exit.inBlock, Exit.then]; refine bodyPost_ret (results_none rfl _ _ _) rfl ?_) | (refine bodyPost_ret (results_none rfl _ _ _) rfl ?_)
                exact ⟨rfl, d1, S5.out, HF.out _ d1 d1 rfl HQ.out.1 HQ.out.2 (permIn_refl _ _ _) ((TwoL.congr (by omega) (by omega) TT.out.2.1 fun t h1 h2 => HQ.out.1.2.1 t (.inr h1)).whole c3 (by omega) (by omega))⟩
              · go_wp2
                first | go_end0 | (simp only [Exit.inBlock, Exit.then]; refine bodyPost_ret (results_none rfl _ _ _) rfl ?_) | (refine bodyPost_ret (results_none rfl _ _ _) rfl ?_)
                exact ⟨rfl, d1, S5.out, HF.out _ d1 d1 rfl HQ.out.1 HQ.out.2 (permIn_refl _ _ _) ((TwoL.congr (by omega) (by omega) TT.out.2.1 fun t h1 h2 => HQ.out.1.2.1 t (.inr h1)).whole c3 (by omega) (by omega))⟩
      · have S4 : Aside (SWK enc k w0 blk off (mkA dk (rotF i m e)) wr) := by rw [TT.out.2.2.2.2.1 c1]; exact S1
        obtain ⟨w4, hw4⟩ : ∃ w4, w4 = wr := ⟨_, rfl⟩
        subst hw4
        clear S1
        by_cases c1a : (i : Int) < (m : Int)
        · have c1b : ¬ (m : Int) < (mid : Int) + (m : Int) - (i : Int) := by omega
          by_cases c2 : a < i ∧ i < mid
          · have c2a : (a : Int) < (i : Int) := by omega
            have c2b : (i : Int) < (mid : Int) := by omega
            have H2 := Lib.hid (HCA.out _ w4 TT.out.2.2.2.2.2 S4.out TT.out.1 c2.1 c2.2)
            go_wp2_with (go_at_call 117; refine H2.out.mono ?_; rintro e1 w5 ⟨rfl, d1, S5x, P5, O5⟩; refine Hid.out ?_)
            refine Lib.hid ?_
            have S5 : Aside (SWK enc k w0 blk off d1 w5) := S5x
            clear S5x
            have hd1 : d1.size = d0.size := P5.1.trans TT.out.2.2.2.2.2
            have HQ := Lib.hid (And.intro P5 O5)
            clear P5 O5 S4
            by_cases c3 : mid < e ∧ e < b
            · have c3a : (mid : Int) < (mid : Int) + (m : Int) - (i : Int) := by omega
              have c3b : (mid : Int) + (m : Int) - (i : Int) < (b : Int) := by omega
              have H3 := Lib.hid (HCB.out d1 w5 hd1 S5.out (TwoL.congr (by omega) (by omega) TT.out.2.1 fun t h1 h2 => HQ.out.1.2.1 t (.inr h1)) c3.1 c3.2)
              go_wp2_with (go_at_call 117; refine H3.out.mono ?_; rintro e1 w6 ⟨rfl, d2, S6, P6, O6⟩; refine Hid.out ?_)
              refine Lib.hid ?_
              go_wp2
              first | go_end0 | (simp only [Exit.inBlock, Exit.then]; refine bodyPost_ret (results_none rfl _ _ _) rfl ?_) | (refine bodyPost_ret (results_none rfl _ _ _) rfl ?_)
              exact ⟨rfl, d2, S6, HF.out _ d1 d2 rfl HQ.out.1 HQ.out.2 P6 O6⟩
            · by_cases c3a : (mid : Int) < (mid : Int) + (m : Int) - (i : Int)
              · have c3b : ¬ (mid : Int) + (m : Int) - (i : Int) < (b : Int) := by omega
                go_wp2
                first | go_end0 | (simp only [Exit.inBlock, Exit.then]; refine bodyPost_ret (results_none rfl _ _ _) rfl ?_) | (refine bodyPost_ret (results_none rfl _ _ _) rfl ?_)
                exact ⟨rfl, d1, S5.out, HF.out _ d1 d1 rfl HQ.out.1 HQ.out.2 (permIn_refl _ _ _) ((TwoL.congr (by omega) (by omega) TT.out.2.1 fun t h1 h2 => HQ.out.1.2.1 t (.inr h1)).whole c3 (by omega) (by omega))⟩
              · go_wp2
                first | go_end0 | (simp only [Exit.inBlock, Exit.then]; refine bodyPost_ret (results_none rfl _ _ _) rfl ?_) | (refine bodyPost_ret (results_none rfl _ _ _) rfl ?_)
                exact ⟨rfl, d1, S5.out, HF.out _ d1 d1 rfl HQ.out.1 HQ.out.2 (permIn_refl _ _ _) ((TwoL.congr (by omega) (by omega) TT.out.2.1 fun t h1 h2 => HQ.out.1.2.1 t (.inr h1)).whole c3 (by omega) (by omega))⟩
          · obtain ⟨d1, hd1e⟩ : ∃ d1, d1 = mkA dk (rotF i m e) := ⟨_, rfl⟩
            obtain ⟨w5, hw5⟩ : ∃ w5, w5 = w4 := ⟨_, rfl⟩
            have S5 : Aside (SWK enc k w0 blk off d1 w5) := by rw [hd1e, hw5]; exact S4
            have hd1 : d1.size = d0.size := by rw [hd1e]; exact TT.out.2.2.2.2.2
            have HQ : Hid (PermIn a mid (mkA dk (rotF i m e)) d1 ∧ SortL LL a mid d1) := Lib.hid (by rw [hd1e]; exact ⟨permIn_refl _ _ _, TT.out.1.whole c2 (by omega) (by omega)⟩)
            subst hw5
            have HD1 := Lib.hid hd1e
            clear hd1e S4
            by_cases c2a : (a : Int) < (i : Int)
            · have c2b : ¬ (i : Int) < (mid : Int) := by omega
              by_cases c3 : mid < e ∧ e < b
              · have c3a : (mid : Int) < (mid : Int) + (m : Int) - (i : Int) := by omega
                have c3b : (mid : Int) + (m : Int) - (i : Int) < (b : Int) := by omega
                have H3 := Lib.hid (HCB.out d1 w5 hd1 S5.out (TwoL.congr (by omega) (by omega) TT.out.2.1 fun t h1 h2 => HQ.out.1.2.1 t (.inr h1)) c3.1 c3.2)
                go_wp2_with (go_at_call 117; refine H3.out.mono ?_; rintro e1 w6 ⟨rfl, d2, S6, P6, O6⟩; refine Hid.out ?_)
                refine Lib.hid ?_
                go_wp2
                first | go_end0 | (simp only [Exit.inBlock, Exit.then]; refine bodyPost_ret (results_none rfl _ _ _) rfl ?_) | (refine bodyPost_ret (results_none rfl _ _ _) rfl ?_)
                exact ⟨rfl, d2, S6, HF.out _ d1 d2 rfl HQ.out.1 HQ.out.2 P6 O6⟩
              · by_cases c3a : (mid : Int) < (mid : Int) + (m : Int) - (i : Int)
                · have c3b : ¬ (mid : Int) + (m : Int) - (i : Int) < (b : Int) := by omega
                  go_wp2
                  first | go_end0 | (simp only [Exit.inBlock, Exit.then]; refine bodyPost_ret (results_none rfl _ _ _) rfl ?_) | (refine bodyPost_ret (results_none rfl _ _ _) rfl ?_)
                  exact ⟨rfl, d1, S5.out, HF.out _ d1 d1 rfl HQ.out.1 HQ.out.2 (permIn_refl _ _ _) ((TwoL.congr (by omega) (by omega) TT.out.2.1 fun t h1 h2 => HQ.out.1.2.1 t (.inr h1)).whole c3 (by omega) (by omega))⟩
                · go_wp2
                  first | go_end0 | (simp only [Exit.inBlock, Exit.then]; refine bodyPost_ret (results_none rfl _ _ _) rfl ?_) | (refine bodyPost_ret (results_none rfl _ _ _) rfl ?_)
                  exact ⟨rfl, d1, S5.out, HF.out _ d1 d1 rfl HQ.out.1 HQ.out.2 (permIn_refl _ _ _) ((TwoL.congr (by omega) (by omega) TT.out.2.1 fun t h1 h2 => HQ.out.1.2.1 t (.inr h1)).whole c3 (by omega) (by omega))⟩
            · by_cases c3 : mid < e ∧ e < b
              · have c3a : (mid : Int) < (mid : Int) + (m : Int) - (i : Int) := by omega
                have c3b : (mid : Int) + (m : Int) - (i : Int) < (b : Int) := by omega
                have H3 := Lib.hid (HCB.out d1 w5 hd1 S5.out (TwoL.congr (by omega) (by omega) TT.out.2.1 fun t h1 h2 => HQ.out.1.2.1 t (.inr h1)) c3.1 c3.2)
                go_wp2_with (go_at_call 117; refine H3.out.mono ?_; rintro e1 w6 ⟨rfl, d2, S6, P6, O6⟩; refine Hid.out ?_)
                refine Lib.hid ?_
                go_wp2
                first | go_end0 | (simp only [Exit.inBlock, Exit.then]; refine bodyPost_ret (results_none rfl _ _ _) rfl ?_) | (refine bodyPost_ret (results_none rfl _ _ _) rfl ?_)
                exact ⟨rfl, d2, S6, HF.out _ d1 d2 rfl HQ.out.1 HQ.out.2 P6 O6⟩
              · by_cases c3a : (mid : Int) < (mid : Int) + (m : Int) - (i : Int)
                · have c3b : ¬ (mid : Int) + (m : Int) - (i : Int) < (b : Int) := by omega
                  go_wp2
                  first | go_end0 | (simp only [Exit.inBlock, Exit.then]; refine bodyPost_ret (results_none rfl _ _ _) rfl ?_) | (refine bodyPost_ret (results_none rfl _ _ _) rfl ?_)
                  exact ⟨rfl, d1, S5.out, HF.out _ d1 d1 rfl HQ.out.1 HQ.out.2 (permIn_refl _ _ _) ((TwoL.congr (by omega) (by omega) TT.out.2.1 fun t h1 h2 => HQ.out.1.2.1 t (.inr h1)).whole c3 (by omega) (by omega))⟩
                · go_wp2
                  first | go_end0 | (simp only [Exit.inBlock, Exit.then]; refine bodyPost_ret (results_none rfl _ _ _) rfl ?_) | (refine bodyPost_ret (results_none rfl _ _ _) rfl ?_)
                  exact ⟨rfl, d1, S5.out, HF.out _ d1 d1 rfl HQ.out.1 HQ.out.2 (permIn_refl _ _ _) ((TwoL.congr (by omega) (by omega) TT.out.2.1 fun t h1 h2 => HQ.out.1.2.1 t (.inr h1)).whole c3 (by omega) (by omega))⟩
        · by_cases c2 : a < i ∧ i < mid
          · have c2a : (a : Int) < (i : Int) := by omega
            have c2b : (i : Int) < (mid : Int) := by omega
            have H2 := Lib.hid (HCA.out _ w4 TT.out.2.2.2.2.2 S4.out TT.out.1 c2.1 c2.2)
            go_wp2_with (go_at_call 117; refine H2.out.mono ?_; rintro e1 w5 ⟨rfl, d1, S5x, P5, O5⟩; refine Hid.out ?_)
            refine Lib.hid ?_
            have S5 : Aside (SWK enc k w0 blk off d1 w5) := S5x
            clear S5x
            have hd1 : d1.size = d0.size := P5.1.trans TT.out.2.2.2.2.2
            have HQ := Lib.hid (And.intro P5 O5)
            clear P5 O5 S4
            by_cases c3 : mid < e ∧ e < b
            · have c3a : (mid : Int) < (mid : Int) + (m : Int) - (i : Int) := by omega
              have c3b : (mid : Int) + (m : Int) - (i : Int) < (b : Int) := by omega
              have H3 := Lib.hid (HCB.out d1 w5 hd1 S5.out (TwoL.congr (by omega) (by omega) TT.out.2.1 fun t h1 h2 => HQ.out.1.2.1 t (.inr h1)) c3.1 c3.2)
              go_wp2_with (go_at_call 117; refine H3.out.mono ?_; rintro e1 w6 ⟨rfl, d2, S6, P6, O6⟩; refine Hid.out ?_)
              refine Lib.hid ?_
              go_wp2
              first | go_end0 | (simp only [Exit.inBlock, Exit.then]; refine bodyPost_ret (results_none rfl _ _ _) rfl ?_) | (refine bodyPost_ret (results_none rfl _ _ _) rfl ?_)
              exact ⟨rfl, d2, S6, HF.out _ d1 d2 rfl HQ.out.1 HQ.out.2 P6 O6⟩
            · by_cases c3a : (mid : Int) < (mid : Int) + (m : Int) - (i : Int)
              · have c3b : ¬ (mid : Int) + (m : Int) - (i : Int) < (b : Int) := by omega
                go_wp2
                first | go_end0 | (simp only [Exit.inBlock, Exit.then]; refine bodyPost_ret (results_none rfl _ _ _) rfl ?_) | (refine bodyPost_ret (results_none rfl _ _ _) rfl ?_)
                exact ⟨rfl, d1, S5.out, HF.out _ d1 d1 rfl HQ.out.1 HQ.out.2 (permIn_refl _ _ _) ((TwoL.congr (by omega) (by omega) TT.out.2.1 fun t h1 h2 => HQ.out.1.2.1 t (.inr h1)).whole c3 (by omega) (by omega))⟩
              · go_wp2
                first | go_end0 | (simp only [Exit.inBlock, Exit.then]; refine bodyPost_ret (results_none rfl _ _ _) rfl ?_) | (refine bodyPost_ret (results_none rfl _ _ _) rfl ?_)
                exact ⟨rfl, d1, S5.out, HF.out _ d1 d1 rfl HQ.out.1 HQ.out.2 (permIn_refl _ _ _) ((TwoL.congr (by omega) (by omega) TT.out.2.1 fun t h1 h2 => HQ.out.1.2.1 t (.inr h1)).whole c3 (by omega) (by omega))⟩
          · obtain ⟨d1, hd1e⟩ : ∃ d1, d1 = mkA dk (rotF i m e) := ⟨_, rfl⟩
            obtain ⟨w5, hw5⟩ : ∃ w5, w5 = w4 := ⟨_, rfl⟩
            have S5 : Aside (SWK enc k w0 blk off d1 w5) := by rw [hd1e, hw5]; exact S4
            have hd1 : d1.size = d0.size := by rw [hd1e]; exact TT.out.2.2.2.2.2
            have HQ : Hid (PermIn a mid (mkA dk (rotF i m e)) d1 ∧ SortL LL a mid d1) := Lib.hid (by rw [hd1e]; exact ⟨permIn_refl _ _ _, TT.out.1.whole c2 (by omega) (by omega)⟩)
            subst hw5
            have HD1 := Lib.hid hd1e
            clear hd1e S4
            by_cases c2a : (a : Int) < (i : Int)
            · have c2b : ¬ (i : Int) < (mid : Int) := by omega
              by_cases c3 : mid < e ∧ e < b
              · have c3a : (mid : Int) < (mid : Int) + (m : Int) - (i : Int) := by omega
                have c3b : (mid : Int) + (m : Int) - (i : Int) < (b : Int) := by omega
                have H3 := Lib.hid (HCB.out d1 w5 hd1 S5.out (TwoL.congr (by omega) (by omega) TT.out.2.1 fun t h1 h2 => HQ.out.1.2.1 t (.inr h1)) c3.1 c3.2)
                go_wp2_with (go_at_call 117; refine H3.out.mono ?_; rintro e1 w6 ⟨rfl, d2, S6, P6, O6⟩; refine Hid.out ?_)
                refine Lib.hid ?_
                go_wp2
                first | go_end0 | (simp only [Exit.inBlock, Exit.then]; refine bodyPost_ret (results_none rfl _ _ _) rfl ?_) | (refine bodyPost_ret (results_none rfl _ _ _) rfl ?_)
                exact ⟨rfl, d2, S6, HF.out _ d1 d2 rfl HQ.out.1 HQ.out.2 P6 O6⟩
              · by_cases c3a : (mid : Int) < (mid : Int) + (m : Int) - (i : Int)
                · have c3b : ¬ (mid : Int) + (m : Int) - (i : Int) < (b : Int) := by omega
                  go_wp2
                  first | go_end0 | (simp only [Exit.inBlock, Exit.then]; refine bodyPost_ret (results_none rfl _ _ _) rfl ?_) | (refine bodyPost_ret (results_none rfl _ _ _) rfl ?_)
                  exact ⟨rfl, d1, S5.out, HF.out _ d1 d1 rfl HQ.out.1 HQ.out.2 (permIn_refl _ _ _) ((TwoL.congr (by omega) (by omega) TT.out.2.1 fun t h1 h2 => HQ.out.1.2.1 t (.inr h1)).whole c3 (by omega) (by omega))⟩
                · go_wp2
                  first | go_end0 | (simp only [Exit.inBlock, Exit.then]; refine bodyPost_ret (results_none rfl _ _ _) rfl ?_) | (refine bodyPost_ret (results_none rfl _ _ _) rfl ?_)
                  exact ⟨rfl, d1, S5.out, HF.out _ d1 d1 rfl HQ.out.1 HQ.out.2 (permIn_refl _ _ _) ((TwoL.congr (by omega) (by omega) TT.out.2.1 fun t h1 h2 => HQ.out.1.2.1 t (.inr h1)).whole c3 (by omega) (by omega))⟩
            · by_cases c3 : mid < e ∧ e < b
              · have c3a : (mid : Int) < (mid : Int) + (m : Int) - (i : Int) := by omega
                have c3b : (mid : Int) + (m : Int) - (i : Int) < (b : Int) := by omega
                have H3 := Lib.hid (HCB.out d1 w5 hd1 S5.out (TwoL.congr (by omega) (by omega) TT.out.2.1 fun t h1 h2 => HQ.out.1.2.1 t (.inr h1)) c3.1 c3.2)
                go_wp2_with (go_at_call 117; refine H3.out.mono ?_; rintro e1 w6 ⟨rfl, d2, S6, P6, O6⟩; refine Hid.out ?_)
                refine Lib.hid ?_
                go_wp2
                first | go_end0 | (simp only [Exit.inBlock, Exit.then]; refine bodyPost_ret (results_none rfl _ _ _) rfl ?_) | (refine bodyPost_ret (results_none rfl _ _ _) rfl ?_)
                exact ⟨rfl, d2, S6, HF.out _ d1 d2 rfl HQ.out.1 HQ.out.2 P6 O6⟩
              · by_cases c3a : (mid : Int) < (mid : Int) + (m : Int) - (i : Int)
                · have c3b : ¬ (mid : Int) + (m : Int) - (i : Int) < (b : Int) := by omega
                  go_wp2
                  first | go_end0 | (simp only [Exit.inBlock, Exit.then]; refine bodyPost_ret (results_none rfl _ _ _) rfl ?_) | (refine bodyPost_ret (results_none rfl _ _ _) rfl ?_)
                  exact ⟨rfl, d1, S5.out, HF.out _ d1 d1 rfl HQ.out.1 HQ.out.2 (permIn_refl _ _ _) ((TwoL.congr (by omega) (by omega) TT.out.2.1 fun t h1 h2 => HQ.out.1.2.1 t (.inr h1)).whole c3 (by omega) (by omega))⟩
                · go_wp2
                  first | go_end0 | (simp only [Exit.inBlock, Exit.then]; refine bodyPost_ret (results_none rfl _ _ _) rfl ?_) | (refine bodyPost_ret (results_none rfl _ _ _) rfl ?_)
                  exact ⟨rfl, d1, S5.out, HF.out _ d1 d1 rfl HQ.out.1 HQ.out.2 (permIn_refl _ _ _) ((TwoL.congr (by omega) (by omega) TT.out.2.1 fun t h1 h2 => HQ.out.1.2.1 t (.inr h1)).whole c3 (by omega) (by omega))⟩

set_option maxHeartbeats 16000000 in
set_option maxRecDepth 1000000 in
/-- Many and many. -/
theorem kSym_small (FW : P.funcs[150]? = some Tryz.f150) (FR : P.funcs[133]? = some Tryz.f133) (e91 : ∀ args w, (callFunc 150 args).run P w = .ok (.enter 150 args) w) (e80 : ∀ args w, (callFunc 133 args).run P w = .ok (.enter 133 args) w) (e68 : ∀ args w, (callFunc 117 args).run P w = .ok (.enter 117 args) w) (L : StabT P) (FG : P.funcs[117]? = some Tryz.f117)
    (k : Nat) (aE : ∀ w, (isAgg 67).run P w = .ok true w) (zE : ∀ w, (Go.sizeOf 67).run P w = .ok k w) (enc : α → List Value) (cf : α → α → Int) (g : Nat) (cb : Array Value) (blk off cap : Nat) (d0 : Array α) (w0 : World)
    (eg : ∀ args w, (callFunc g args).run P w = .ok (.enter g args) w) (hcmp : CmpLays P g cb enc k cf blk off d0.size w0) (R : RowK enc k w0 blk off d0) (hsz : d0.size < 4611686018427387904) (LL : α → α → Prop) (tr : ∀ x y z, LL x y → LL y z → LL x z)
    (N : Nat) (IH : ∀ (a m b : Nat) (dk : Array α) (w : World), b - a ≤ N → dk.size = d0.size → SWK enc k w0 blk off dk w → a < m → m < b → b ≤ d0.size → TwoL (ltOf cf) LL a m b dk →
    Calls P 117 #[.slice (some ⟨blk, off, none⟩) d0.size cap, .int .i64 a, .int .i64 m, .int .i64 b, .func (.func g) #[] cb] w fun e w' => e = .returned (.tuple #[]) ∧ ∃ d', SWK enc k w0 blk off d' w' ∧ PermIn a b dk d' ∧ SortL LL a b d')
    (a m b mid : Nat) (dk : Array α) (w : World) (hN : b - a ≤ N + 1) (hds : dk.size = d0.size) (S : SWK enc k w0 blk off dk w) (ham : a + 1 < m) (hmb : m + 1 < b) (hb : b ≤ d0.size) (hT : TwoL (ltOf cf) LL a m b dk) (hmid : mid = (a + b) / 2) (hgt : m ≤ mid) :
    Calls P 117 #[.slice (some ⟨blk, off, none⟩) d0.size cap, .int .i64 a, .int .i64 m, .int .i64 b, .func (.func g) #[] cb] w fun e w' => e = .returned (.tuple #[]) ∧ ∃ d', SWK enc k w0 blk off d' w' ∧ PermIn a b dk d' ∧ SortL LL a b d' := by
  have mixed := L.mixed; have t0 := L.t0; have a0 := L.a0; have z0 := L.z0; have v0 := L.v0; have t3 := L.t3; have a3 := L.a3; have z3 := L.z3; have v3 := L.v3; have t4 := L.t4; have a4 := L.a4; have z4 := L.z4; have v4 := L.v4; have t22 := L.t22; have a22 := L.a22; have z22 := L.z22; have v22 := L.v22; have t25 := L.t25; have a25 := L.a25; have z25 := L.z25; have v25 := L.v25; have t39 := L.t39; have a39 := L.a39; have z39 := L.z39; have v39 := L.v39
  have S0 : Aside (SWK enc k w0 blk off dk w) := S
  have HC : Aside (CmpLays P g cb enc k cf blk off d0.size w0) := hcmp
  have HT : Aside (TwoL (ltOf cf) LL a m b dk) := hT
  have HI : Aside (∀ (a m b : Nat) (dk : Array α) (w : World), b - a ≤ N → dk.size = d0.size → SWK enc k w0 blk off dk w → a < m → m < b → b ≤ d0.size → TwoL (ltOf cf) LL a m b dk → Calls P 117 #[.slice (some ⟨blk, off, none⟩) d0.size cap, .int .i64 a, .int .i64 m, .int .i64 b, .func (.func g) #[] cb] w fun e w' => e = .returned (.tuple #[]) ∧ ∃ d', SWK enc k w0 blk off d' w' ∧ PermIn a b dk d' ∧ SortL LL a b d') := IH
  have HR : Aside (∀ (a m b : Nat) (dk : Array α) (w : World), dk.size = d0.size → SWK enc k w0 blk off dk w → a < m → m < b → b ≤ d0.size → Calls P 133 #[.slice (some ⟨blk, off, none⟩) d0.size cap, .int .i64 a, .int .i64 m, .int .i64 b, .func (.func g) #[] cb] w fun e w' => e = .returned (.tuple #[]) ∧ SWK enc k w0 blk off (mkA dk (rotF a m b)) w') :=
    fun a m b dk w h1 h2 h3 h4 h5 => by rw [← h1]; exact kRot_any L FW FR k aE zE enc _ blk off cap a m b d0 dk w0 w e91 R (by omega) h2 h3 h4 (by omega) (by omega)
  clear S hcmp hT IH FW FR
  have hm3 : a < mid := by omega
  have hm4 : mid < b := by omega
  have hm5 : 2 * mid ≤ a + b := by omega
  have hm6 : a + b ≤ 2 * mid + 1 := by omega
  have hw1 : IntKind.i64.wrap ((a : Int) + (b : Int)) = (a : Int) + (b : Int) := by rw [IntKind.wrap_i64]; omega
  have hw2 : IntKind.u64.wrap ((a : Int) + (b : Int)) = (a : Int) + (b : Int) := by simp [IntKind.wrap, IntKind.bits, IntKind.signed]; omega
  have hw3 : IntKind.u64.wrap (((a : Int) + (b : Int)) / 2) = ((mid : Nat) : Int) := by simp [IntKind.wrap, IntKind.bits, IntKind.signed]; omega
  have hw4 : IntKind.i64.wrap ((mid : Nat) : Int) = ((mid : Nat) : Int) := by rw [IntKind.wrap_i64]; omega
  have hw5 : ((a : Int) + (b : Int)) / 2 = ((mid : Nat) : Int) := by omega
  have hw6 : IntKind.i64.wrap (((a : Int) + (b : Int)) / 2) = ((mid : Nat) : Int) := by rw [IntKind.wrap_i64]; omega
  have HM := Lib.hid hmid
  clear hmid
  have hmq : ((m : Int) - (a : Int) == 1) = false := by rw [beq_eq_false_iff_ne]; omega
  have hmq2 : ((b : Int) - (m : Int) == 1) = false := by rw [beq_eq_false_iff_ne]; omega
  have hgz : ¬ (mid : Int) < (m : Int) := by omega
  obtain ⟨s0, hs0⟩ : ∃ x, x = a := ⟨_, rfl⟩
  obtain ⟨r0, hr0⟩ : ∃ x, x = m := ⟨_, rfl⟩
  have HS0 : Aside (((mid < m ∧ s0 = mid + m - b ∧ r0 = mid) ∨ (m ≤ mid ∧ s0 = a ∧ r0 = m)) ) := .inr ⟨hgt, hs0, hr0⟩
  have hx5 : a ≤ s0 := by omega
  have hx6 : r0 ≤ m := by omega
  have hx7 : s0 ≤ r0 := by omega
  have hx3 : mid + m ≤ b + s0 := by omega
  have hx4 : r0 ≤ mid := by omega
  have HS1 := Lib.hid (And.intro hs0 hr0)
  clear hs0 hr0
  go_enter FG, Tryz.ntmps117
  go_wp2
  go_loopg [20, 21] (b - a) (fun kx s10 s11 wr => ∃ (i j : Nat), s10 = .int .i64 i ∧ s11 = .int .i64 j ∧ s0 ≤ i ∧ i ≤ j ∧ j ≤ r0 ∧ j - i ≤ kx ∧ Aside (SWK enc k w0 blk off dk wr) ∧ Aside ((∀ c, s0 ≤ c → c < i → LL dk[c]! dk[mid + m - 1 - c]!) ∧ (∀ c, j ≤ c → c < r0 → LL dk[mid + m - 1 - c]! dk[c]!)))
  case atStart => exact ⟨s0, r0, by have h1 := HS1.out.1; first | (rw [h1]; done) | (congr 1; omega), by have h1 := HS1.out.2; rw [h1], Nat.le_refl _, hx7, Nat.le_refl _, by omega, S0, fun c h1 h2 => by omega, fun c h1 h2 => by omega⟩
  case round =>
    clear S0
    obtain ⟨i, j, rfl, rfl, hi, hij, hjb, hkx, S1, HJ⟩ := hrel
    have hx1 : a ≤ i := by omega
    have hx2 : j ≤ m := by omega
    by_cases hlt : i < j
    · have hltz : (i : Int) < (j : Int) := by omega
      obtain ⟨h, hh⟩ : ∃ h, h = (i + j) / 2 := ⟨_, rfl⟩
      have hh1 : i ≤ h := by omega
      have hh2 : h < j := by omega
      have hy1 : IntKind.i64.wrap ((i : Int) + (j : Int)) = (i : Int) + (j : Int) := by rw [IntKind.wrap_i64]; omega
      have hy2 : IntKind.u64.wrap ((i : Int) + (j : Int)) = (i : Int) + (j : Int) := by simp [IntKind.wrap, IntKind.bits, IntKind.signed]; omega
      have hy3 : IntKind.u64.wrap (((i : Int) + (j : Int)) / 2) = ((h : Nat) : Int) := by simp [IntKind.wrap, IntKind.bits, IntKind.signed]; omega
      have hy4 : IntKind.i64.wrap ((h : Nat) : Int) = ((h : Nat) : Int) := by rw [IntKind.wrap_i64]; omega
      have hy5 : ((i : Int) + (j : Int)) / 2 = ((h : Nat) : Int) := by omega
      have hy6 : IntKind.i64.wrap (((i : Int) + (j : Int)) / 2) = ((h : Nat) : Int) := by rw [IntKind.wrap_i64]; omega
      clear hh
      obtain ⟨y, hy⟩ : ∃ y, y = mid + m - 1 - h := ⟨_, rfl⟩
      have hq1 : y + h + 1 ≤ mid + m ∧ mid + m ≤ y + h + 1 := by omega
      have HY := Lib.hid hy
      clear hy
      have ea1 : ((h : Int)).toNat = h := by omega
      have pa1 : (0 : Int) ≤ (h : Int) := by omega
      have ba1 : (h : Int) < (d0.size : Int) := by omega
      have ra1 : IntKind.i64.wrap ((h : Int)) = (h : Int) := by rw [IntKind.wrap_i64]; omega
      have ea2 : ((y : Int)).toNat = y := by omega
      have pa2 : (0 : Int) ≤ (y : Int) := by omega
      have ba2 : (y : Int) < (d0.size : Int) := by omega
      have ra2 : IntKind.i64.wrap ((y : Int)) = (y : Int) := by rw [IntKind.wrap_i64]; omega
      have rb2 : IntKind.i64.wrap ((mid : Int) + (m : Int) - 1 - (h : Int)) = (y : Int) := by rw [IntKind.wrap_i64]; omega
      cases hlv : ltOf cf dk[y]! dk[h]! with
      | true =>
        have HN : Aside (∀ c, h ≤ c → c < r0 → LL dk[mid + m - 1 - c]! dk[c]!) := fun c h1 h2 => by
          have e1 := (HT.out.cross h y (by omega) (by omega) (by omega) (by omega)).1 hlv
          by_cases cc : c = h
          · rw [cc, ← HY.out]; exact e1
          · exact tr _ _ _ (tr _ _ _ (HT.out.right (mid + m - 1 - c) y (by omega) (by omega) (by omega)) e1) (HT.out.left h c (by omega) (by omega) (by omega))
        obtain ⟨x3, hx3⟩ : ∃ x, x = dk[y]! := ⟨_, rfl⟩
        obtain ⟨y3, hy3⟩ : ∃ x, x = dk[h]! := ⟨_, rfl⟩
        have l3a := S1.out.ld R (by omega) P (y) (by omega)
        have l3b := S1.out.ld R (by omega) P (h) (by omega)
        rw [← hx3] at l3a
        rw [← hy3] at l3b
        have hc3 := S1.out.cmp HC.out (by omega) x3 y3
        have hv3 : cf x3 y3 < 0 := by rw [hx3, hy3]; exact of_decide_eq_true hlv
        have hd3 : decide (cf x3 y3 < 0) = true := decide_eq_true hv3
        clear hx3 hy3
        go_wp2_with fail
        go_quiet_grown (first | (go_at_fn g; refine Calls.grown_of (hc3 _ _)))
        have S2 : Aside (SWK enc k w0 blk off dk (grow (wr.drewN nq) osq)) := S1.out.grown nq osq
        clear l3a l3b hc3 S1
        generalize grow (wr.drewN nq) osq = w2 at S2 ⊢
        clear nq osq
        go_wp2
        go_roundg (h - i)
        case measure => omega
        case rel => exact ⟨i, h, rfl, by go_num, hi, by omega, by omega, Nat.le_refl _, S2, HJ.out.1, HN.out⟩
      | false =>
        have HN : Aside (∀ c, s0 ≤ c → c < h + 1 → LL dk[c]! dk[mid + m - 1 - c]!) := fun c h1 h2 => by
          have e1 := (HT.out.cross h y (by omega) (by omega) (by omega) (by omega)).2 hlv
          by_cases cc : c = h
          · rw [cc, ← HY.out]; exact e1
          · exact tr _ _ _ (tr _ _ _ (HT.out.left c h (by omega) (by omega) (by omega)) e1) (HT.out.right y (mid + m - 1 - c) (by omega) (by omega) (by omega))
        obtain ⟨x3, hx3⟩ : ∃ x, x = dk[y]! := ⟨_, rfl⟩
        obtain ⟨y3, hy3⟩ : ∃ x, x = dk[h]! := ⟨_, rfl⟩
        have l3a := S1.out.ld R (by omega) P (y) (by omega)
        have l3b := S1.out.ld R (by omega) P (h) (by omega)
        rw [← hx3] at l3a
        rw [← hy3] at l3b
        have hc3 := S1.out.cmp HC.out (by omega) x3 y3
        have hv3 : ¬ cf x3 y3 < 0 := by rw [hx3, hy3]; exact of_decide_eq_false hlv
        have hd3 : decide (cf x3 y3 < 0) = false := decide_eq_false hv3
        clear hx3 hy3
        go_wp2_with fail
        go_quiet_grown (first | (go_at_fn g; refine Calls.grown_of (hc3 _ _)))
        have S2 : Aside (SWK enc k w0 blk off dk (grow (wr.drewN nq) osq)) := S1.out.grown nq osq
        clear l3a l3b hc3 S1
        generalize grow (wr.drewN nq) osq = w2 at S2 ⊢
        clear nq osq
        go_wp2
        go_roundg (j - (h + 1))
        case measure => omega
        case rel => exact ⟨h + 1, j, by go_num, rfl, by omega, by omega, hjb, Nat.le_refl _, S2, HN.out, HJ.out.2⟩
    · obtain rfl : i = j := by omega
      have hltz : ¬ (i : Int) < (i : Int) := by omega
      obtain ⟨hcut, hme⟩ := cut_of tr HT.out (by omega) (by omega) HM.out HS0.out hi hjb HJ.out.1 HJ.out.2
      obtain ⟨e, he⟩ : ∃ e, e = mid + m - i := ⟨_, rfl⟩
      rw [← he] at hcut hme
      have hi1 := hcut.sa; have hi2 := hcut.sm; have hi3 := hcut.me; have hi4 := hcut.eb
      have hz1 : e + i ≤ mid + m ∧ mid + m ≤ e + i := by omega
      have ez : ((e : Nat) : Int) = (mid : Int) + (m : Int) - (i : Int) := by omega
      have T1 := hcut.first HT.out (by omega)
      have T2 := hcut.last HT.out (by omega)
      have T3 := hcut.apart HT.out (by omega)
      rw [hme] at T1 T2 T3
      have hrp := permIn_mono _ _ i e a b hi1 hi4 (by omega) (rot_perm dk (by omega) (by omega) (show e ≤ dk.size by omega))
      have hrn : ¬ (i < m ∧ m < e) → mkA dk (rotF i m e) = dk := fun hn => rot_none dk (by omega) hi2 hi3
      have hrs : (mkA dk (rotF i m e)).size = d0.size := by rw [mkA_size]; exact hds
      have HRR : Aside (i < m → m < e → Calls P 133 #[.slice (some ⟨blk, off, none⟩) d0.size cap, .int .i64 i, .int .i64 m, .int .i64 ((mid : Int) + (m : Int) - (i : Int)), .func (.func g) #[] cb] wr fun e1 w' => e1 = .returned (.tuple #[]) ∧ SWK enc k w0 blk off (mkA dk (rotF i m e)) w') := fun h1 h2 => by
        have := HR.out i m e dk wr hds S1.out h1 h2 (by omega)
        rw [ez] at this
        exact this
      have HCA : Aside (∀ dr w1, dr.size = d0.size → SWK enc k w0 blk off dr w1 → TwoL (ltOf cf) LL a i mid dr → a < i → i < mid → Calls P 117 #[.slice (some ⟨blk, off, none⟩) d0.size cap, .int .i64 a, .int .i64 i, .int .i64 mid, .func (.func g) #[] cb] w1 fun e1 w' => e1 = .returned (.tuple #[]) ∧ ∃ d1, SWK enc k w0 blk off d1 w' ∧ PermIn a mid dr d1 ∧ SortL LL a mid d1) := fun dr w1 h1 h2 h3 h4 h5 => HI.out a i mid dr w1 (by omega) h1 h2 h4 h5 (by omega) h3
      have HCB : Aside (∀ dr w1, dr.size = d0.size → SWK enc k w0 blk off dr w1 → TwoL (ltOf cf) LL mid e b dr → mid < e → e < b → Calls P 117 #[.slice (some ⟨blk, off, none⟩) d0.size cap, .int .i64 mid, .int .i64 ((mid : Int) + (m : Int) - (i : Int)), .int .i64 b, .func (.func g) #[] cb] w1 fun e1 w' => e1 = .returned (.tuple #[]) ∧ ∃ d1, SWK enc k w0 blk off d1 w' ∧ PermIn mid b dr d1 ∧ SortL LL mid b d1) := fun dr w1 h1 h2 h3 h4 h5 => by
        have := HI.out mid e b dr w1 (by omega) h1 h2 h4 h5 (by omega) h3
        rw [ez] at this
        exact this
      have TT := Lib.hid (And.intro T1 (And.intro T2 (And.intro T3 (And.intro hrp (And.intro hrn hrs)))))
      have HF : Aside (∀ dr d1 d2 : Array α, dr = mkA dk (rotF i m e) → PermIn a mid dr d1 → SortL LL a mid d1 → PermIn mid b d1 d2 → SortL LL mid b d2 → PermIn a b dk d2 ∧ SortL LL a b d2) := fun dr d1 d2 h0 h1 h2 h3 h4 => by
        subst h0
        have := SortL.join (by omega) (by omega) (by omega) T3 h1 h2 h3 h4
        exact ⟨permIn_trans _ _ _ _ _ hrp this.2, this.1⟩
      have HEZ := Lib.hid (And.intro ez (And.intro he hme))
      clear T1 T2 T3 hrp hrn hrs hcut hme he ez HR HI HJ HC HT HS0 HS1
      by_cases c1 : i < m ∧ m < e
      · have c1a : (i : Int) < (m : Int) := by omega
        have c1b : (m : Int) < (mid : Int) + (m : Int) - (i : Int) := by omega
        have H1 := Lib.hid (HRR.out c1.1 c1.2)
        go_wp2_with (go_at_call 133; refine H1.out.mono ?_; rintro e1 w4 ⟨rfl, S4x⟩; refine Hid.out ?_)
        refine Lib.hid ?_
        have S4 : Aside (SWK enc k w0 blk off (mkA dk (rotF i m e)) w4) := S4x
        clear S4x S1
        by_cases c2 : a < i ∧ i < mid
        · have c2a : (a : Int) < (i : Int) := by omega
          have c2b : (i : Int) < (mid : Int) := by omega
          have H2 := Lib.hid (HCA.out _ w4 TT.out.2.2.2.2.2 S4.out TT.out.1 c2.1 c2.2)
          go_wp2_with (go_at_call 117; refine H2.out.mono ?_; rintro e1 w5 ⟨rfl, d1, S5x, P5, O5⟩; refine Hid.out ?_)
          refine Lib.hid ?_
          have S5 : Aside (SWK enc k w0 blk off d1 w5) := S5x
          clear S5x
          have hd1 : d1.size = d0.size := P5.1.trans TT.out.2.2.2.2.2
          have HQ := Lib.hid (And.intro P5 O5)
          clear P5 O5 S4
          by_cases c3 : mid < e ∧ e < b
          · have c3a : (mid : Int) < (mid : Int) + (m : Int) - (i : Int) := by omega
            have c3b : (mid : Int) + (m : Int) - (i : Int) < (b : Int) := by omega
            have H3 := Lib.hid (HCB.out d1 w5 hd1 S5.out (TwoL.congr (by omega) (by omega) TT.out.2.1 fun t h1 h2 => HQ.out.1.2.1 t (.inr h1)) c3.1 c3.2)
            go_wp2_with (go_at_call 117; refine H3.out.mono ?_; rintro e1 w6 ⟨rfl, d2, S6, P6, O6⟩; refine Hid.out ?_)
            refine Lib.hid ?_
            go_wp2
            first | go_end0 | (simp only [Exit.inBlock, Exit.then]; refine bodyPost_ret (results_none rfl _ _ _) rfl ?_) | (refine bodyPost_ret (results_none rfl _ _ _) rfl ?_)
            exact ⟨rfl, d2, S6, HF.out _ d1 d2 rfl HQ.out.1 HQ.out.2 P6 O6⟩
          · by_cases c3a : (mid : Int) < (mid : Int) + (m : Int) - (i : Int)
            · have c3b : ¬ (mid : Int) + (m : Int) - (i : Int) < (b : Int) := by omega
              go_wp2
              first | go_end0 | (simp only [Exit.inBlock, Exit.then]; refine bodyPost_ret (results_none rfl _ _ _) rfl ?_) | (refine bodyPost_ret (results_none rfl _ _ _) rfl ?_)
              exact ⟨rfl, d1, S5.out, HF.out _ d1 d1 rfl HQ.out.1 HQ.out.2 (permIn_refl _ _ _) ((TwoL.congr (by omega) (by omega) TT.out.2.1 fun t h1 h2 => HQ.out.1.2.1 t (.inr h1)).whole c3 (by omega) (by omega))⟩
            · go_wp2
              first | go_end0 | (simp only [Exit.inBlock, Exit.then]; refine bodyPost_ret (results_none rfl _ _ _) rfl ?_) | (refine bodyPost_ret (results_none rfl _ _ _) rfl ?_)
              exact ⟨rfl, d1, S5.out, HF.out _ d1 d1 rfl HQ.out.1 HQ.out.2 (permIn_refl _ _ _) ((TwoL.congr (by omega) (by omega) TT.out.2.1 fun t h1 h2 => HQ.out.1.2.1 t (.inr h1)).whole c3 (by omega) (by omega))⟩
        · obtain ⟨d1, hd1e⟩ : ∃ d1, d1 = mkA dk (rotF i m e) := ⟨_, rfl⟩
          obtain ⟨w5, hw5⟩ : ∃ w5, w5 = w4 := ⟨_, rfl⟩
          have S5 : Aside (SWK enc k w0 blk off d1 w5) := by rw [hd1e, hw5]; exact S4
          have hd1 : d1.size = d0.size := by rw [hd1e]; exact TT.out.2.2.2.2.2
          have HQ : Hid (PermIn a mid (mkA dk (rotF i m e)) d1 ∧ SortL LL a mid d1) := Lib.hid (by rw [hd1e]; exact ⟨permIn_refl _ _ _, TT.out.1.whole c2 (by omega) (by omega)⟩)
          subst hw5
          have HD1 := Lib.hid hd1e
          clear hd1e S4
          by_cases c2a : (a : Int) < (i : Int)
          · have c2b : ¬ (i : Int) < (mid : Int) := by omega
            by_cases c3 : mid < e ∧ e < b
            · have c3a : (mid : Int) < (mid : Int) + (m : Int) - (i : Int) := by omega
              have c3b : (mid : Int) + (m : Int) - (i : Int) < (b : Int) := by omega
              have H3 := Lib.hid (HCB.out d1 w5 hd1 S5.out (TwoL.congr (by omega) (by omega) TT.out.2.1 fun t h1 h2 => HQ.out.1.2.1 t (.inr h1)) c3.1 c3.2)
              go_wp2_with (go_at_call 117; refine H3.out.mono ?_; rintro e1 w6 ⟨rfl, d2, S6, P6, O6⟩; refine Hid.out ?_)
              refine Lib.hid ?_
              go_wp2
              first | go_end0 | (simp only [Exit.inBlock, Exit.then]; refine bodyPost_ret (results_none rfl _ _ _) rfl ?_) | (refine bodyPost_ret (results_none rfl _ _ _) rfl ?_)
              exact ⟨rfl, d2, S6, HF.out _ d1 d2 rfl HQ.out.1 HQ.out.2 P6 O6⟩
            · by_cases c3a : (mid : Int) < (mid : Int) + (m : Int) - (i : Int)
              · have c3b : ¬ (mid : Int) + (m : Int) - (i : Int) < (b : Int) := by omega
                go_wp2
                first | go_end0 | (simp only [Exit.inBlock, Exit.then]; refine bodyPost_ret (results_none rfl _ _ _) rfl ?_) | (refine bodyPost_ret (results_none rfl _ _ _) rfl ?_)
                exact ⟨rfl, d1, S5.out, HF.out _ d1 d1 rfl HQ.out.1 HQ.out.2 (permIn_refl _ _ _) ((TwoL.congr (by omega) (by omega) TT.out.2.1 fun t h1 h2 => HQ.out.1.2.1 t (.inr h1)).whole c3 (by omega) (by omega))⟩
              · go_wp2
                first | go_end0 | (simp only [Exit.inBlock, Exit.then]; refine bodyPost_ret (results_none rfl _ _ _) rfl ?_) | (refine bodyPost_ret (results_none rfl _ _ _) rfl ?_)
                exact ⟨rfl, d1, S5.out, HF.out _ d1 d1 rfl HQ.out.1 HQ.out.2 (permIn_refl _ _ _) ((TwoL.congr (by omega) (by omega) TT.out.2.1 fun t h1 h2 => HQ.out.1.2.1 t (.inr h1)).whole c3 (by omega) (by omega))⟩
          · by_cases c3 : mid < e ∧ e < b
            · have c3a : (mid : Int) < (mid : Int) + (m : Int) - (i : Int) := by omega
              have c3b : (mid : Int) + (m : Int) - (i : Int) < (b : Int) := by omega
              have H3 := Lib.hid (HCB.out d1 w5 hd1 S5.out (TwoL.congr (by omega) (by omega) TT.out.2.1 fun t h1 h2 => HQ.out.1.2.1 t (.inr h1)) c3.1 c3.2)
              go_wp2_with (go_at_call 117; refine H3.out.mono ?_; rintro e1 w6 ⟨rfl, d2, S6, P6, O6⟩; refine Hid.out ?_)
              refine Lib.hid ?_
              go_wp2
              first | go_end0 | (simp only [Exit.inBlock, Exit.then]; refine bodyPost_ret (results_none rfl _ _ _) rfl ?_) | (refine bodyPost_ret (results_none rfl _ _ _) rfl ?_)
              exact ⟨rfl, d2, S6, HF.out _ d1 d2 rfl HQ.out.1 HQ.out.2 P6 O6⟩
            · by_cases c3a : (mid : Int) < (mid : Int) + (m : Int) - (i : Int)
              · have c3b : ¬ (mid : Int) + (m : Int) - (i : Int) < (b : Int) := by omega
                go_wp2
                first | go_end0 | (simp only [Exit.inBlock, Exit.then]; refine bodyPost_ret (results_none rfl _ _ _) rfl ?_) | (refine bodyPost_ret (results_none rfl _ _ _) rfl ?_)
                exact ⟨rfl, d1, S5.out, HF.out _ d1 d1 rfl HQ.out.1 HQ.out.2 (permIn_refl _ _ _) ((TwoL.congr (by omega) (by omega) TT.out.2.1 fun t h1 h2 => HQ.out.1.2.1 t (.inr h1)).whole c3 (by omega) (by omega))⟩
              · go_wp2
                first | go_end0 | (simp only [Exit.inBlock, Exit.then]; refine bodyPost_ret (results_none rfl _ _ _) rfl ?_) | (refine bodyPost_ret (results_none rfl _ _ _) rfl ?_)
                exact ⟨rfl, d1, S5.out, HF.out _ d1 d1 rfl HQ.out.1 HQ.out.2 (permIn_refl _ _ _) ((TwoL.congr (by omega) (by omega) TT.out.2.1 fun t h1 h2 => HQ.out.1.2.1 t (.inr h1)).whole c3 (by omega) (by omega))⟩
      · have S4 : Aside (SWK enc k w0 blk off (mkA dk (rotF i m e)) wr) := by rw [TT.out.2.2.2.2.1 c1]; exact S1
        obtain ⟨w4, hw4⟩ : ∃ w4, w4 = wr := ⟨_, rfl⟩
        subst hw4
        clear S1
        by_cases c1a : (i : Int) < (m : Int)
        · have c1b : ¬ (m : Int) < (mid : Int) + (m : Int) - (i : Int) := by omega
          by_cases c2 : a < i ∧ i < mid
          · have c2a : (a : Int) < (i : Int) := by omega
            have c2b : (i : Int) < (mid : Int) := by omega
            have H2 := Lib.hid (HCA.out _ w4 TT.out.2.2.2.2.2 S4.out TT.out.1 c2.1 c2.2)
            go_wp2_with (go_at_call 117; refine H2.out.mono ?_; rintro e1 w5 ⟨rfl, d1, S5x, P5, O5⟩; refine Hid.out ?_)
            refine Lib.hid ?_
            have S5 : Aside (SWK enc k w0 blk off d1 w5) := S5x
            clear S5x
            have hd1 : d1.size = d0.size := P5.1.trans TT.out.2.2.2.2.2
            have HQ := Lib.hid (And.intro P5 O5)
            clear P5 O5 S4
            by_cases c3 : mid < e ∧ e < b
            · have c3a : (mid : Int) < (mid : Int) + (m : Int) - (i : Int) := by omega
              have c3b : (mid : Int) + (m : Int) - (i : Int) < (b : Int) := by omega
              have H3 := Lib.hid (HCB.out d1 w5 hd1 S5.out (TwoL.congr (by omega) (by omega) TT.out.2.1 fun t h1 h2 => HQ.out.1.2.1 t (.inr h1)) c3.1 c3.2)
              go_wp2_with (go_at_call 117; refine H3.out.mono ?_; rintro e1 w6 ⟨rfl, d2, S6, P6, O6⟩; refine Hid.out ?_)
              refine Lib.hid ?_
              go_wp2
              first | go_end0 | (simp only [Exit.inBlock, Exit.then]; refine bodyPost_ret (results_none rfl _ _ _) rfl ?_) | (refine bodyPost_ret (results_none rfl _ _ _) rfl ?_)
              exact ⟨rfl, d2, S6, HF.out _ d1 d2 rfl HQ.out.1 HQ.out.2 P6 O6⟩
            · by_cases c3a : (mid : Int) < (mid : Int) + (m : Int) - (i : Int)
              · have c3b : ¬ (mid : Int) + (m : Int) - (i : Int) < (b : Int) := by omega
                go_wp2
                first | go_end0 | (simp only [Exit.inBlock, Exit.then]; refine bodyPost_ret (results_none rfl _ _ _) rfl ?_) | (refine bodyPost_ret (results_none rfl _ _ _) rfl ?_)
                exact ⟨rfl, d1, S5.out, HF.out _ d1 d1 rfl HQ.out.1 HQ.out.2 (permIn_refl _ _ _) ((TwoL.congr (by omega) (by omega) TT.out.2.1 fun t h1 h2 => HQ.out.1.2.1 t (.inr h1)).whole c3 (by omega) (by omega))⟩
              · go_wp2
                first | go_end0 | (simp only [Exit.inBlock, Exit.then]; refine bodyPost_ret (results_none rfl _ _ _) rfl ?_) | (refine bodyPost_ret (results_none rfl _ _ _) rfl ?_)
                exact ⟨rfl, d1, S5.out, HF.out _ d1 d1 rfl HQ.out.1 HQ.out.2 (permIn_refl _ _ _) ((TwoL.congr (by omega) (by omega) TT.out.2.1 fun t h1 h2 => HQ.out.1.2.1 t (.inr h1)).whole c3 (by omega) (by omega))⟩
          · obtain ⟨d1, hd1e⟩ : ∃ d1, d1 = mkA dk (rotF i m e) := ⟨_, rfl⟩
            obtain ⟨w5, hw5⟩ : ∃ w5, w5 = w4 := ⟨_, rfl⟩
            have S5 : Aside (SWK enc k w0 blk off d1 w5) := by rw [hd1e, hw5]; exact S4
            have hd1 : d1.size = d0.size := by rw [hd1e]; exact TT.out.2.2.2.2.2
            have HQ : Hid (PermIn a mid (mkA dk (rotF i m e)) d1 ∧ SortL LL a mid d1) := Lib.hid (by rw [hd1e]; exact ⟨permIn_refl _ _ _, TT.out.1.whole c2 (by omega) (by omega)⟩)
            subst hw5
            have HD1 := Lib.hid hd1e
            clear hd1e S4
            by_cases c2a : (a : Int) < (i : Int)
            · have c2b : ¬ (i : Int) < (mid : Int) := by omega
              by_cases c3 : mid < e ∧ e < b
              · have c3a : (mid : Int) < (mid : Int) + (m : Int) - (i : Int) := by omega
                have c3b : (mid : Int) + (m : Int) - (i : Int) < (b : Int) := by omega
                have H3 := Lib.hid (HCB.out d1 w5 hd1 S5.out (TwoL.congr (by omega) (by omega) TT.out.2.1 fun t h1 h2 => HQ.out.1.2.1 t (.inr h1)) c3.1 c3.2)
                go_wp2_with (go_at_call 117; refine H3.out.mono ?_; rintro e1 w6 ⟨rfl, d2, S6, P6, O6⟩; refine Hid.out ?_)
                refine Lib.hid ?_
                go_wp2
                first | go_end0 | (simp only [Exit.inBlock, Exit.then]; refine bodyPost_ret (results_none rfl _ _ _) rfl ?_) | (refine bodyPost_ret (results_none rfl _ _ _) rfl ?_)
                exact ⟨rfl, d2, S6, HF.out _ d1 d2 rfl HQ.out.1 HQ.out.2 P6 O6⟩
              · by_cases c3a : (mid : Int) < (mid : Int) + (m : Int) - (i : Int)
                · have c3b : ¬ (mid : Int) + (m : Int) - (i : Int) < (b : Int) := by omega
                  go_wp2
                  first | go_end0 | (simp only [Exit.inBlock, Exit.then]; refine bodyPost_ret (results_none rfl _ _ _) rfl ?_) | (refine bodyPost_ret (results_none rfl _ _ _) rfl ?_)
                  exact ⟨rfl, d1, S5.out, HF.out _ d1 d1 rfl HQ.out.1 HQ.out.2 (permIn_refl _ _ _) ((TwoL.congr (by omega) (by omega) TT.out.2.1 fun t h1 h2 => HQ.out.1.2.1 t (.inr h1)).whole c3 (by omega) (by omega))⟩
                · go_wp2
                  first | go_end0 | (simp only [Exit.inBlock, Exit.then]; refine bodyPost_ret (results_none rfl _ _ _) rfl ?_) | (refine bodyPost_ret (results_none rfl _ _ _) rfl ?_)
                  exact ⟨rfl, d1, S5.out, HF.out _ d1 d1 rfl HQ.out.1 HQ.out.2 (permIn_refl _ _ _) ((TwoL.congr (by omega) (by omega) TT.out.2.1 fun t h1 h2 => HQ.out.1.2.1 t (.inr h1)).whole c3 (by omega) (by omega))⟩
            · by_cases c3 : mid < e ∧ e < b
              · have c3a : (mid : Int) < (mid : Int) + (m : Int) - (i : Int) := by omega
                have c3b : (mid : Int) + (m : Int) - (i : Int) < (b : Int) := by omega
                have H3 := Lib.hid (HCB.out d1 w5 hd1 S5.out (TwoL.congr (by omega) (by omega) TT.out.2.1 fun t h1 h2 => HQ.out.1.2.1 t (.inr h1)) c3.1 c3.2)
                go_wp2_with (go_at_call 117; refine H3.out.mono ?_; rintro e1 w6 ⟨rfl, d2, S6, P6, O6⟩; refine Hid.out ?_)
                refine Lib.hid ?_
                go_wp2
                first | go_end0 | (simp only [Exit.inBlock, Exit.then]; refine bodyPost_ret (results_none rfl _ _ _) rfl ?_) | (refine bodyPost_ret (results_none rfl _ _ _) rfl ?_)
                exact ⟨rfl, d2, S6, HF.out _ d1 d2 rfl HQ.out.1 HQ.out.2 P6 O6⟩
              · by_cases c3a : (mid : Int) < (mid : Int) + (m : Int) - (i : Int)
                · have c3b : ¬ (mid : Int) + (m : Int) - (i : Int) < (b : Int) := by omega
                  go_wp2
                  first | go_end0 | (simp only [Exit.inBlock, Exit.then]; refine bodyPost_ret (results_none rfl _ _ _) rfl ?_) | (refine bodyPost_ret (results_none rfl _ _ _) rfl ?_)
                  exact ⟨rfl, d1, S5.out, HF.out _ d1 d1 rfl HQ.out.1 HQ.out.2 (permIn_refl _ _ _) ((TwoL.congr (by omega) (by omega) TT.out.2.1 fun t h1 h2 => HQ.out.1.2.1 t (.inr h1)).whole c3 (by omega) (by omega))⟩
                · go_wp2
                  first | go_end0 | (simp only [Exit.inBlock, Exit.then]; refine bodyPost_ret (results_none rfl _ _ _) rfl ?_) | (refine bodyPost_ret (results_none rfl _ _ _) rfl ?_)
                  exact ⟨rfl, d1, S5.out, HF.out _ d1 d1 rfl HQ.out.1 HQ.out.2 (permIn_refl _ _ _) ((TwoL.congr (by omega) (by omega) TT.out.2.1 fun t h1 h2 => HQ.out.1.2.1 t (.inr h1)).whole c3 (by omega) (by omega))⟩
        · by_cases c2 : a < i ∧ i < mid
          · have c2a : (a : Int) < (i : Int) := by omega
            have c2b : (i : Int) < (mid : Int) := by omega
            have H2 := Lib.hid (HCA.out _ w4 TT.out.2.2.2.2.2 S4.out TT.out.1 c2.1 c2.2)
            go_wp2_with (go_at_call 117; refine H2.out.mono ?_; rintro e1 w5 ⟨rfl, d1, S5x, P5, O5⟩; refine Hid.out ?_)
            refine Lib.hid ?_
            have S5 : Aside (SWK enc k w0 blk off d1 w5) := S5x
            clear S5x
            have hd1 : d1.size = d0.size := P5.1.trans TT.out.2.2.2.2.2
            have HQ := Lib.hid (And.intro P5 O5)
            clear P5 O5 S4
            by_cases c3 : mid < e ∧ e < b
            · have c3a : (mid : Int) < (mid : Int) + (m : Int) - (i : Int) := by omega
              have c3b : (mid : Int) + (m : Int) - (i : Int) < (b : Int) := by omega
              have H3 := Lib.hid (HCB.out d1 w5 hd1 S5.out (TwoL.congr (by omega) (by omega) TT.out.2.1 fun t h1 h2 => HQ.out.1.2.1 t (.inr h1)) c3.1 c3.2)
              go_wp2_with (go_at_call 117; refine H3.out.mono ?_; rintro e1 w6 ⟨rfl, d2, S6, P6, O6⟩; refine Hid.out ?_)
              refine Lib.hid ?_
              go_wp2
              first | go_end0 | (simp only [Exit.inBlock, Exit.then]; refine bodyPost_ret (results_none rfl _ _ _) rfl ?_) | (refine bodyPost_ret (results_none rfl _ _ _) rfl ?_)
              exact ⟨rfl, d2, S6, HF.out _ d1 d2 rfl HQ.out.1 HQ.out.2 P6 O6⟩
            · by_cases c3a : (mid : Int) < (mid : Int) + (m : Int) - (i : Int)
              · have c3b : ¬ (mid : Int) + (m : Int) - (i : Int) < (b : Int) := by omega
                go_wp2
                first | go_end0 | (simp only [Exit.inBlock, Exit.then]; refine bodyPost_ret (results_none rfl _ _ _) rfl ?_) | (refine bodyPost_ret (results_none rfl _ _ _) rfl ?_)
                exact ⟨rfl, d1, S5.out, HF.out _ d1 d1 rfl HQ.out.1 HQ.out.2 (permIn_refl _ _ _) ((TwoL.congr (by omega) (by omega) TT.out.2.1 fun t h1 h2 => HQ.out.1.2.1 t (.inr h1)).whole c3 (by omega) (by omega))⟩
              · go_wp2
                first | go_end0 | (simp only [Exit.inBlock, Exit.then]; refine bodyPost_ret (results_none rfl _ _ _) rfl ?_) | (refine bodyPost_ret (results_none rfl _ _ _) rfl ?_)
                exact ⟨rfl, d1, S5.out, HF.out _ d1 d1 rfl HQ.out.1 HQ.out.2 (permIn_refl _ _ _) ((TwoL.congr (by omega) (by omega) TT.out.2.1 fun t h1 h2 => HQ.out.1.2.1 t (.inr h1)).whole c3 (by omega) (by omega))⟩
          · obtain ⟨d1, hd1e⟩ : ∃ d1, d1 = mkA dk (rotF i m e) := ⟨_, rfl⟩
            obtain ⟨w5, hw5⟩ : ∃ w5, w5 = w4 := ⟨_, rfl⟩
            have S5 : Aside (SWK enc k w0 blk off d1 w5) := by rw [hd1e, hw5]; exact S4
            have hd1 : d1.size = d0.size := by rw [hd1e]; exact TT.out.2.2.2.2.2
            have HQ : Hid (PermIn a mid (mkA dk (rotF i m e)) d1 ∧ SortL LL a mid d1) := Lib.hid (by rw [hd1e]; exact ⟨permIn_refl _ _ _, TT.out.1.whole c2 (by omega) (by omega)⟩)
            subst hw5
            have HD1 := Lib.hid hd1e
            clear hd1e S4
            by_cases c2a : (a : Int) < (i : Int)
            · have c2b : ¬ (i : Int) < (mid : Int) := by omega
              by_cases c3 : mid < e ∧ e < b
              · have c3a : (mid : Int) < (mid : Int) + (m : Int) - (i : Int) := by omega
                have c3b : (mid : Int) + (m : Int) - (i : Int) < (b : Int) := by omega
                have H3 := Lib.hid (HCB.out d1 w5 hd1 S5.out (TwoL.congr (by omega) (by omega) TT.out.2.1 fun t h1 h2 => HQ.out.1.2.1 t (.inr h1)) c3.1 c3.2)
                go_wp2_with (go_at_call 117; refine H3.out.mono ?_; rintro e1 w6 ⟨rfl, d2, S6, P6, O6⟩; refine Hid.out ?_)
                refine Lib.hid ?_
                go_wp2
                first | go_end0 | (simp only [Exit.inBlock, Exit.then]; refine bodyPost_ret (results_none rfl _ _ _) rfl ?_) | (refine bodyPost_ret (results_none rfl _ _ _) rfl ?_)
                exact ⟨rfl, d2, S6, HF.out _ d1 d2 rfl HQ.out.1 HQ.out.2 P6 O6⟩
              · by_cases c3a : (mid : Int) < (mid : Int) + (m : Int) - (i : Int)
                · have c3b : ¬ (mid : Int) + (m : Int) - (i : Int) < (b : Int) := by omega
                  go_wp2
                  first | go_end0 | (simp only [Exit.inBlock, Exit.then]; refine bodyPost_ret (results_none rfl _ _ _) rfl ?_) | (refine bodyPost_ret (results_none rfl _ _ _) rfl ?_)
                  exact ⟨rfl, d1, S5.out, HF.out _ d1 d1 rfl HQ.out.1 HQ.out.2 (permIn_refl _ _ _) ((TwoL.congr (by omega) (by omega) TT.out.2.1 fun t h1 h2 => HQ.out.1.2.1 t (.inr h1)).whole c3 (by omega) (by omega))⟩
                · go_wp2
                  first | go_end0 | (simp only [Exit.inBlock, Exit.then]; refine bodyPost_ret (results_none rfl _ _ _) rfl ?_) | (refine bodyPost_ret (results_none rfl _ _ _) rfl ?_)
                  exact ⟨rfl, d1, S5.out, HF.out _ d1 d1 rfl HQ.out.1 HQ.out.2 (permIn_refl _ _ _) ((TwoL.congr (by omega) (by omega) TT.out.2.1 fun t h1 h2 => HQ.out.1.2.1 t (.inr h1)).whole c3 (by omega) (by omega))⟩
            · by_cases c3 : mid < e ∧ e < b
              · have c3a : (mid : Int) < (mid : Int) + (m : Int) - (i : Int) := by omega
                have c3b : (mid : Int) + (m : Int) - (i : Int) < (b : Int) := by omega
                have H3 := Lib.hid (HCB.out d1 w5 hd1 S5.out (TwoL.congr (by omega) (by omega) TT.out.2.1 fun t h1 h2 => HQ.out.1.2.1 t (.inr h1)) c3.1 c3.2)
                go_wp2_with (go_at_call 117; refine H3.out.mono ?_; rintro e1 w6 ⟨rfl, d2, S6, P6, O6⟩; refine Hid.out ?_)
                refine Lib.hid ?_
                go_wp2
                first | go_end0 | (simp only [Exit.inBlock, Exit.then]; refine bodyPost_ret (results_none rfl _ _ _) rfl ?_) | (refine bodyPost_ret (results_none rfl _ _ _) rfl ?_)
                exact ⟨rfl, d2, S6, HF.out _ d1 d2 rfl HQ.out.1 HQ.out.2 P6 O6⟩
              · by_cases c3a : (mid : Int) < (mid : Int) + (m : Int) - (i : Int)
                · have c3b : ¬ (mid : Int) + (m : Int) - (i : Int) < (b : Int) := by omega
                  go_wp2
                  first | go_end0 | (simp only [Exit.inBlock, Exit.then]; refine bodyPost_ret (results_none rfl _ _ _) rfl ?_) | (refine bodyPost_ret (results_none rfl _ _ _) rfl ?_)
                  exact ⟨rfl, d1, S5.out, HF.out _ d1 d1 rfl HQ.out.1 HQ.out.2 (permIn_refl _ _ _) ((TwoL.congr (by omega) (by omega) TT.out.2.1 fun t h1 h2 => HQ.out.1.2.1 t (.inr h1)).whole c3 (by omega) (by omega))⟩
                · go_wp2
                  first | go_end0 | (simp only [Exit.inBlock, Exit.then]; refine bodyPost_ret (results_none rfl _ _ _) rfl ?_) | (refine bodyPost_ret (results_none rfl _ _ _) rfl ?_)
                  exact ⟨rfl, d1, S5.out, HF.out _ d1 d1 rfl HQ.out.1 HQ.out.2 (permIn_refl _ _ _) ((TwoL.congr (by omega) (by omega) TT.out.2.1 fun t h1 h2 => HQ.out.1.2.1 t (.inr h1)).whole c3 (by omega) (by omega))⟩

set_option maxHeartbeats 1000000 in
/-- Two rising rows, put into one. -/
theorem kSym_any (FW : P.funcs[150]? = some Tryz.f150) (FR : P.funcs[133]? = some Tryz.f133) (e91 : ∀ args w, (callFunc 150 args).run P w = .ok (.enter 150 args) w) (e80 : ∀ args w, (callFunc 133 args).run P w = .ok (.enter 133 args) w) (e68 : ∀ args w, (callFunc 117 args).run P w = .ok (.enter 117 args) w) (L : StabT P) (FG : P.funcs[117]? = some Tryz.f117)
    (k : Nat) (aE : ∀ w, (isAgg 67).run P w = .ok true w) (zE : ∀ w, (Go.sizeOf 67).run P w = .ok k w) (enc : α → List Value) (cf : α → α → Int) (g : Nat) (cb : Array Value) (blk off cap : Nat) (d0 : Array α) (w0 : World)
    (eg : ∀ args w, (callFunc g args).run P w = .ok (.enter g args) w) (hcmp : CmpLays P g cb enc k cf blk off d0.size w0) (R : RowK enc k w0 blk off d0) (hsz : d0.size < 4611686018427387904) (LL : α → α → Prop) (tr : ∀ x y z, LL x y → LL y z → LL x z) :
    ∀ (N a m b : Nat) (dk : Array α) (w : World), b - a ≤ N → dk.size = d0.size → SWK enc k w0 blk off dk w → a < m → m < b → b ≤ d0.size → TwoL (ltOf cf) LL a m b dk →
    Calls P 117 #[.slice (some ⟨blk, off, none⟩) d0.size cap, .int .i64 a, .int .i64 m, .int .i64 b, .func (.func g) #[] cb] w fun e w' => e = .returned (.tuple #[]) ∧ ∃ d', SWK enc k w0 blk off d' w' ∧ PermIn a b dk d' ∧ SortL LL a b d'
  | 0, a, m, b, dk, w, hN, _, _, ham, hmb, _, _ => by omega
  | N + 1, a, m, b, dk, w, hN, hds, S, ham, hmb, hb, hT => by
    by_cases c1 : m = a + 1
    · exact kSym_left L FG k aE zE enc cf g cb blk off cap d0 w0 eg hcmp R hsz LL tr a b dk w hds S (by omega) hb (by rw [← c1]; exact hT) m c1
    · by_cases c2 : b = m + 1
      · exact kSym_right L FG k aE zE enc cf g cb blk off cap d0 w0 eg hcmp R hsz LL tr a m dk w hds S (by omega) (by rw [← c2]; exact hT) b c2 hb
      · by_cases c3 : (a + b) / 2 < m
        · exact kSym_great FW FR e91 e80 e68 L FG k aE zE enc cf g cb blk off cap d0 w0 eg hcmp R hsz LL tr N (kSym_any FW FR e91 e80 e68 L FG k aE zE enc cf g cb blk off cap d0 w0 eg hcmp R hsz LL tr N) a m b _ dk w hN hds S (by omega) (by omega) hb hT rfl c3
        · exact kSym_small FW FR e91 e80 e68 L FG k aE zE enc cf g cb blk off cap d0 w0 eg hcmp R hsz LL tr N (kSym_any FW FR e91 e80 e68 L FG k aE zE enc cf g cb blk off cap d0 w0 eg hcmp R hsz LL tr N) a m b _ dk w hN hds S (by omega) (by omega) hb hT rfl (by omega)

end Go.Proofs.YtmanjegdgjeeiaaGreatDoor
