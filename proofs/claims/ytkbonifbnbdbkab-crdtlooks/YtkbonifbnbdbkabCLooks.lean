/-
  The walk of CrdtLooks.
-/
import Derived.Test.YtkbonifbnbdbkabC21
import Derived.Test.YtkbonifbnbdbkabCForks
import Derived.Test.YtkbonifbnbdbkabEOpen
namespace Go.Proofs.Ytkbonifbnbdbkab
open Go.RowKit Go.Maps Go.ChangeShapes Go.WideShapes Go.ChangeAt Go.Deep

theorem cellsSpot : Try.prog.cellsOf 24 = 2 := by kernel_rfl
theorem arrayTwoS {cs : Array Value} (h : cs.size = 2) : ∃ c0 c1, cs = #[c0, c1] := by
  obtain ⟨l⟩ := cs
  match l, h with
  | [c0, c1], _ => exact ⟨c0, c1, rfl⟩
section
variable {H : Type} {enc : TypeId × Value → H} {W : World} {base : Nat} {sp : Nat → Bool} {held : Bool} {fuel : Nat} {x : DataW H × List MemPlace}
theorem trod_twoS {t : TypeId} {f0 f1 : Field} {cs : List Value} (ht : Try.prog.underlying t = some (.struct #[f0, f1])) (h : DataW.trod enc Try.prog W base sp held fuel t cs = some x) :
    ∃ y0 y1 n, DataW.trod enc Try.prog W base sp held n f0.type ((cs.drop f0.offset).take (Try.prog.cellsOf f0.type)) = some y0 ∧ DataW.trod enc Try.prog W base sp held n f1.type ((cs.drop f1.offset).take (Try.prog.cellsOf f1.type)) = some y1 := by
  obtain ⟨xs, n, _, -, hl, hlen, hf⟩ := DataW.trod_struct ht h
  match xs, hlen with
  | [y0, y1], _ => exact ⟨y0, y1, n, by simpa using hf 0 f0 rfl, by simpa using hf 1 f1 rfl⟩
set_option maxRecDepth 20000 in
theorem open_spot {base' : Nat} {r0 : Reach} {v : Value} (hv : Value.okWide Try.prog W r0 base' 24 v) (h : DataW.trod enc Try.prog W base sp held fuel 24 v.cells.toList = some x) :
    ∃ (s : ByteArray) (n : Int), v = .agg #[.string s, .int .i64 n] ∧ s.size ≤ maxLen := by
  obtain ⟨cs, rfl, hsz⟩ := okWide_struct Try.underlying24 hv
  obtain ⟨v0, v1, rfl⟩ := arrayTwoS (hsz.trans cellsSpot)
  obtain ⟨y0, y1, n, h0, h1⟩ := trod_twoS Try.underlying24 h
  simp [Value.cells, cellsInE, cellsStE] at h0 h1
  obtain ⟨s, e0, -, g0⟩ := DataW.trod_string Try.underlying9 h0
  obtain ⟨a, e1, -⟩ := DataW.trod_int Try.underlying3 h1
  simp only [List.cons.injEq, and_true] at e0 e1
  subst e0 e1
  exact ⟨s, a, rfl, g0⟩
end

set_option maxRecDepth 100000 in
set_option maxHeartbeats 64000000 in
theorem looks_walk (aA : Option Addr) (cA : Nat) (lA : List Ent) (aB : Option Addr) (cB : Nat) (lB : List Ent) (key : ByteArray) (now : Int) (W : World) (heA : EntsAt W aA lA) (heB : EntsAt W aB lB) (hfB : ∀ y ∈ lB, y.k.size ≤ 9223372036854775807) (hkey : key.size ≤ maxLen) (nA nB : Nat) (hA : nA = lA.length) (hB : nB = lB.length) :
    Calls Try.prog 3 #[.slice aA nA cA, .slice aB nB cB, .agg #[.string key, .int .i64 now]] W fun e w' => e = .returned (.bool true) ∧ Below W.heap.size W w' := by
  have HL1 : Hid (∀ w, Calls Try.prog 5 #[.slice aA nA cA] w fun e w' => e = .returned (.bool (decide (nA ≤ 300))) ∧ Below w.heap.size w w') := Lib.hid (fun w => crLight_any aA nA cA w)
  have HL2 : Hid (∀ w, Calls Try.prog 5 #[.slice aB nB cB] w fun e w' => e = .returned (.bool (decide (nB ≤ 300))) ∧ Below w.heap.size w w') := Lib.hid (fun w => crLight_any aB nB cB w)
  have D0 := (Below.refl W.heap.size W).alloc (Nat.le_refl _) (.cells #[.string key, .int .i64 now] 24)
  have HD0 := Lib.hid D0
  have s0 : (W.alloc (.cells #[.string key, .int .i64 now] 24)).cell? ⟨W.heap.size, 0, none⟩ = some (.string key) := cellE (newE W _)
  have s1 : (W.alloc (.cells #[.string key, .int .i64 now] 24)).cell? ⟨W.heap.size, 1, none⟩ = some (.int .i64 now) := cellE (newE W _)
  have hs1 : W.heap.size < (W.alloc (.cells #[.string key, .int .i64 now] 24)).heap.size := by simp
  have HSP := Lib.hid (And.intro s0 (And.intro s1 hs1))
  clear D0 s0 s1 hs1
  by_cases h1 : nA ≤ 300
  · rw [decide_eq_true h1] at HL1
    by_cases h2 : nB ≤ 300
    · rw [decide_eq_true h2] at HL2
      have HNA := Lib.hid hA
      have HNB := Lib.hid hB
      have HEA := Lib.hid heA
      have HEB := Lib.hid heB
      have HKy := Lib.hid hkey
      have HFB := Lib.hid hfB
      have HlA : Hid (lA.length ≤ 9223372036854775807) := Lib.hid (by omega)
      have HlB : Hid (lB.length ≤ 9223372036854775807) := Lib.hid (by omega)
      obtain ⟨S1, eS1⟩ : ∃ S, mergeS [] lA = S := ⟨_, rfl⟩
      have HS1 := Lib.hid eS1
      have HR1 : Hid (RisingC S1 ∧ S1.length ≤ 256) := Lib.hid (eS1 ▸ ⟨mergeS_rising lA List.Pairwise.nil, mergeS_len lA (by simp)⟩)
      have HNw : Hid (∀ u, Calls Try.prog 7 #[] u fun e w' => ∃ sb bm, e = .returned (.pointer (some ⟨sb, 0, none⟩)) ∧ CAt w' sb bm [] ∧ u.heap.size ≤ bm ∧ Below u.heap.size u w') := Lib.hid (fun u => (cNew_at u).mono fun e w' ⟨e1, e2, e3⟩ => ⟨_, _, e1, e2, Nat.le_refl _, e3⟩)
      clear hA hB heA heB eS1 hkey hfB
      go_enter Try.func3, Try.ntmps3
      go_wp2_with (go_at_call 5; refine (HL1.out _).mono ?_; rintro e w1 ⟨rfl, q1⟩; replace q1 := Lib.hid q1; refine Hid.out ?_)
      refine Lib.hid ?_
      go_wp2_with (go_at_call 5; refine (HL2.out _).mono ?_; rintro e w2 ⟨rfl, q2⟩; replace q2 := Lib.hid q2; refine Hid.out ?_)
      refine Lib.hid ?_
      have s0 := ((q2.out.cell (p := ⟨W.heap.size, 0, none⟩) (Nat.lt_of_lt_of_le HSP.out.2.2 q1.out.size)).trans (q1.out.cell (p := ⟨W.heap.size, 0, none⟩) HSP.out.2.2)).trans HSP.out.1
      have s1 := ((q2.out.cell (p := ⟨W.heap.size, 1, none⟩) (Nat.lt_of_lt_of_le HSP.out.2.2 q1.out.size)).trans (q1.out.cell (p := ⟨W.heap.size, 1, none⟩) HSP.out.2.2)).trans HSP.out.2.1
      have HQ0 : Hid (∀ q, Below W.heap.size W (w2.drewN q)) := Lib.hid (fun q => (HD0.out.trans ((q1.out.trans (q2.out.mono q1.out.size)).mono HD0.out.size)).trans (show Below _ w2 (w2.drewN q) from ⟨rfl, rfl, rfl, Nat.le_refl _, fun _ _ => rfl⟩))
      clear q1 q2 HL1 HL2 HD0 HSP
      go_wp2_with fail
      go_quiet (fail)
      clear s0 s1
      have Q2 := HQ0.out nq
      clear HQ0
      generalize w2.drewN nq = w2 at *
      go_wp2_with (go_at_call 7; refine (HNw.out _).mono ?_; rintro e w3 ⟨sb, bm, rfl, m3, hbm, q3⟩; replace m3 := Lib.hid m3; replace hbm := Lib.hid hbm; replace q3 := Lib.hid q3; refine Hid.out ?_)
      refine Lib.hid ?_
      have Q3 := Q2.trans (q3.out.mono Q2.size)
      have d4 := (Below.refl w3.heap.size w3).alloc (Nat.le_refl _) (.cells #[.slice none 0 0] 30)
      have Q4 := Q3.trans (d4.mono Q3.size)
      have HB : Hid (W.heap.size ≤ bm ∧ W.heap.size ≤ w3.heap.size) := Lib.hid ⟨Nat.le_trans Q2.size hbm.out, Q3.size⟩
      have HS : Hid (QrC (w3.alloc (.cells #[.slice none 0 0] 30)) sb bm w3.heap.size none 0 0 [] [] ∧ EntsAt (w3.alloc (.cells #[.slice none 0 0] 30)) aA lA ∧ EntsAt (w3.alloc (.cells #[.slice none 0 0] 30)) aB lB ∧ Below W.heap.size W (w3.alloc (.cells #[.slice none 0 0] 30))) := Lib.hid ⟨⟨m3.out.on d4, RmBlk.new w3 none 0 0, rfl, nilRefM _⟩, HEA.out.on Q4, HEB.out.on Q4, Q4⟩
      have HM := Lib.hid (cMerge_any sb bm [] aA cA lA _ HS.out.1.1 HS.out.2.1 HlA.out nA HNA.out)
      rw [HS1.out] at HM
      obtain ⟨cn1, hcn1⟩ : ∃ z, mergeN [] lA = z := ⟨_, rfl⟩
      rw [hcn1] at HM; have HMn := Lib.hid hcn1; clear hcn1
      clear Q2 Q3 Q4 d4 q3 m3 hbm HNw HEA HEB
      go_wp2_with (go_at_call 8; refine HM.out.mono ?_; rintro e w5 ⟨rfl, m5, g5⟩; replace m5 := Lib.hid m5; replace g5 := Lib.hid g5; refine Hid.out ?_)
      refine Lib.hid ?_
      obtain ⟨p, xA, xB, q⟩ := HS.out
      have HS5 : Hid (QrC w5 sb bm w3.heap.size none 0 0 S1 [] ∧ EntsAt w5 aA lA ∧ EntsAt w5 aB lB ∧ Below W.heap.size W w5) := Lib.hid ⟨p.own m5.out g5.out, xA.turn g5.out p.1.2.1, xB.turn g5.out p.1.2.1, q.grown g5.out q.size (fun j hj => by cases hj; exact HB.out.1)⟩
      clear p xA xB q HS HM m5 g5
      generalize w3.heap.size = R at *
      have HC6 := Lib.hid (crMerge_any none 0 0 [] aA nA cA lA w5 (nilRefM _) rfl List.Pairwise.nil (by simp) HS5.out.2.1 HNA.out (by omega))
      rw [HS1.out, HMn.out] at HC6
      obtain ⟨n1, hn1⟩ : ∃ n, S1.length = n := ⟨_, rfl⟩
      rw [hn1] at HC6
      have HN1 := Lib.hid hn1.symm
      clear hn1 HMn
      have r0 := HS5.out.1.2.1.c0
      go_wp2_with (go_at_call 9; refine HC6.out.mono ?_; rintro e w6 ⟨a1, c1, rfl, f6, q6⟩; replace f6 := Lib.hid f6; replace q6 := Lib.hid q6; refine Hid.out ?_)
      refine Lib.hid ?_
      clear r0
      obtain ⟨p, xA, xB, q⟩ := HS5.out
      have p6 := p.on q6.out
      have r0 := p6.2.1.c0; have r1 := p6.2.1.f 0
      have k6 := q6.out
      have HS6 : Hid (QrC (w6.setCell ⟨R, 0, none⟩ (.slice a1 n1 c1)) sb bm R a1 n1 c1 S1 S1 ∧ EntsAt (w6.setCell ⟨R, 0, none⟩ (.slice a1 n1 c1)) aA lA ∧ EntsAt (w6.setCell ⟨R, 0, none⟩ (.slice a1 n1 c1)) aB lB ∧ Below W.heap.size W (w6.setCell ⟨R, 0, none⟩ (.slice a1 n1 c1))) := Lib.hid ⟨p6.put f6.out HN1.out, (xA.on k6).otherR p6.2.1, (xB.on k6).otherR p6.2.1, (q.trans (k6.mono q.size)).setCell (p := ⟨R, 0, none⟩) (by exact HB.out.2) _⟩
      clear p xA xB q p6 k6 HS5 HC6 f6 q6
      have HGt := Lib.hid (cGet_any sb bm S1 key _ HS6.out.1.1 HKy.out)
      obtain ⟨y, hy⟩ : ∃ y, getC S1 key.data.toList = y := ⟨_, rfl⟩
      obtain ⟨gb, hgb⟩ : ∃ b, (gotC S1 key.data.toList).isSome = b := ⟨_, rfl⟩
      rw [hy, hgb] at HGt
      have HY := Lib.hid (And.intro hy hgb)
      clear hy hgb
      obtain ⟨ky, ty, oy, vy, uy⟩ := y
      dsimp only at HGt
      go_wp2_with (go_at_call 10; refine HGt.out.mono ?_; rintro e w7 ⟨rfl, q7⟩; replace q7 := Lib.hid q7; refine Hid.out ?_)
      refine Lib.hid ?_
      clear r0 r1 HGt
      have d8 := (Below.refl w7.heap.size w7).alloc (Nat.le_refl _) (.cells #[.string ky, .int .i64 ty, .int .u16 oy, .string vy, .int .i64 uy] 36)
      have HS8 : Hid (QrC (w7.alloc (.cells #[.string ky, .int .i64 ty, .int .u16 oy, .string vy, .int .i64 uy] 36)) sb bm R a1 n1 c1 S1 S1 ∧ EBlk (w7.alloc (.cells #[.string ky, .int .i64 ty, .int .u16 oy, .string vy, .int .i64 uy] 36)) w7.heap.size ⟨ky, ty, oy, vy, uy⟩ ∧ EntsAt (w7.alloc (.cells #[.string ky, .int .i64 ty, .int .u16 oy, .string vy, .int .i64 uy] 36)) aA lA ∧ EntsAt (w7.alloc (.cells #[.string ky, .int .i64 ty, .int .u16 oy, .string vy, .int .i64 uy] 36)) aB lB ∧ Below W.heap.size W (w7.alloc (.cells #[.string ky, .int .i64 ty, .int .u16 oy, .string vy, .int .i64 uy] 36))) := Lib.hid (have h := HS6.out; have q := q7.out; have Q := h.2.2.2.trans (q.mono h.2.2.2.size); ⟨(h.1.on q).on d8, EBlk.new w7 ⟨ky, ty, oy, vy, uy⟩, (h.2.1.on q).on d8, (h.2.2.1.on q).on d8, Q.trans (d8.mono Q.size)⟩)
      clear d8 q7 HS6
      have HGr := Lib.hid (crGet_any a1 c1 S1 key _ HS8.out.1.2.2.2.1 (by have := HR1.out.2; omega) n1 HN1.out)
      rw [HY.out.1, HY.out.2] at HGr
      dsimp only at HGr
      have r0 := HS8.out.1.2.1.c0
      go_wp2_with (go_at_call 11; refine HGr.out.mono ?_; rintro e w9 ⟨rfl, q9⟩; replace q9 := Lib.hid q9; refine Hid.out ?_)
      refine Lib.hid ?_
      clear r0 HGr
      generalize w7.heap.size = X at *
      have d10 := (Below.refl w9.heap.size w9).alloc (Nat.le_refl _) (.cells #[.string ky, .int .i64 ty, .int .u16 oy, .string vy, .int .i64 uy] 36)
      obtain ⟨Zz, hZz⟩ : ∃ z, z = w9.heap.size := ⟨_, rfl⟩
      have HS10 : Hid (QrC (w9.alloc (.cells #[.string ky, .int .i64 ty, .int .u16 oy, .string vy, .int .i64 uy] 36)) sb bm R a1 n1 c1 S1 S1 ∧ EBlk (w9.alloc (.cells #[.string ky, .int .i64 ty, .int .u16 oy, .string vy, .int .i64 uy] 36)) X ⟨ky, ty, oy, vy, uy⟩ ∧ EBlk (w9.alloc (.cells #[.string ky, .int .i64 ty, .int .u16 oy, .string vy, .int .i64 uy] 36)) Zz ⟨ky, ty, oy, vy, uy⟩ ∧ EntsAt (w9.alloc (.cells #[.string ky, .int .i64 ty, .int .u16 oy, .string vy, .int .i64 uy] 36)) aA lA ∧ EntsAt (w9.alloc (.cells #[.string ky, .int .i64 ty, .int .u16 oy, .string vy, .int .i64 uy] 36)) aB lB ∧ Below W.heap.size W (w9.alloc (.cells #[.string ky, .int .i64 ty, .int .u16 oy, .string vy, .int .i64 uy] 36))) := Lib.hid (have h := HS8.out; have q := q9.out; have Q := h.2.2.2.2.trans (q.mono h.2.2.2.2.size); ⟨(h.1.on q).on d10, (h.2.1.on q).on d10, hZz ▸ EBlk.new w9 ⟨ky, ty, oy, vy, uy⟩, (h.2.2.1.on q).on d10, (h.2.2.2.1.on q).on d10, Q.trans (d10.mono Q.size)⟩)
      have HZz := Lib.hid hZz
      clear d10 q9 HS8 hZz
      obtain ⟨V, hV⟩ : ∃ V, viewC S1 now = V := ⟨_, rfl⟩
      obtain ⟨D, hD⟩ : ∃ D, deltaS S1 lB = D := ⟨_, rfl⟩
      obtain ⟨nv, hnv⟩ : ∃ n, V.length = n := ⟨_, rfl⟩
      obtain ⟨nd, hnd⟩ : ∃ n, D.length = n := ⟨_, rfl⟩
      obtain ⟨bb, hbb⟩ : ∃ b, sameC lA lB = b := ⟨_, rfl⟩
      have hvl : V.length ≤ 256 := by rw [← hV]; exact Nat.le_trans (viewC_len S1 now) HR1.out.2
      have hdl : D.length ≤ 256 := by rw [← hD]; exact Nat.le_trans (List.length_filter_le _ _) HR1.out.2
      have HVw : Hid (∀ u, CAt u sb bm S1 → Calls Try.prog 13 #[.pointer (some ⟨sb, 0, none⟩), .int .i64 now] u fun e w' => ∃ a c, e = .returned (.slice a nv c) ∧ EntsAt w' a V ∧ Below u.heap.size u w') := Lib.hid (fun u hu => (cView_any sb bm S1 now u hu).mono fun e w' ⟨v, e1, e2, e3⟩ => by
        obtain ⟨a, c, rfl, -, -, e7⟩ := e2.form
        rw [hV] at e1 e7
        rw [hnv] at e1
        exact ⟨a, c, e1, e7, e3⟩)
      have HVr : Hid (∀ u, EntsAt u a1 S1 → Calls Try.prog 14 #[.agg #[.slice a1 n1 c1], .int .i64 now] u fun e w' => ∃ a c, e = .returned (.slice a nv c) ∧ EntsAt w' a V ∧ Below u.heap.size u w') := Lib.hid (fun u hu => (crView_any a1 c1 S1 now u hu (by have := HR1.out.2; omega) n1 HN1.out).mono fun e w' ⟨v, e1, e2, e3⟩ => by
        obtain ⟨a, c, rfl, -, -, e7⟩ := e2.form
        rw [hV] at e1 e7
        rw [hnv] at e1
        exact ⟨a, c, e1, e7, e3⟩)
      have HDw : Hid (∀ u, CAt u sb bm S1 → EntsAt u aB lB → Calls Try.prog 15 #[.pointer (some ⟨sb, 0, none⟩), .slice aB nB cB] u fun e w' => ∃ a c, e = .returned (.slice a nd c) ∧ EntsAt w' a D ∧ Below u.heap.size u w') := Lib.hid (fun u hu hx => (cDelta_any sb bm S1 aB cB lB u hu hx HFB.out HlB.out nB HNB.out).mono fun e w' ⟨v, e1, e2, e3⟩ => by
        obtain ⟨a, c, rfl, -, -, e7⟩ := e2.form
        rw [hD] at e1 e7
        rw [hnd] at e1
        exact ⟨a, c, e1, e7, e3⟩)
      have HDr : Hid (∀ u, EntsAt u a1 S1 → EntsAt u aB lB → Calls Try.prog 16 #[.agg #[.slice a1 n1 c1], .slice aB nB cB] u fun e w' => ∃ a c, e = .returned (.slice a nd c) ∧ EntsAt w' a D ∧ Below u.heap.size u w') := Lib.hid (fun u hu hx => (crDelta_any a1 c1 S1 aB cB lB u hu hx (by have := HR1.out.2; omega) n1 HN1.out nB HNB.out (by omega)).mono fun e w' ⟨v, e1, e2, e3⟩ => by
        obtain ⟨a, c, rfl, -, -, e7⟩ := e2.form
        rw [hD] at e1 e7
        rw [hnd] at e1
        exact ⟨a, c, e1, e7, e3⟩)
      have HSV : Hid (∀ u a c a' c', EntsAt u a V → EntsAt u a' V → Calls Try.prog 12 #[.slice a nv c, .slice a' nv c'] u fun e w' => e = .returned (.bool true) ∧ Below u.heap.size u w') := Lib.hid (fun u a c a' c' h1 h2 => by
        have := crSame_any a a' c c' V V u h1 h2 (by omega) nv nv hnv.symm hnv.symm
        rw [sameC_refl] at this
        exact this)
      have HSD : Hid (∀ u a c a' c', EntsAt u a D → EntsAt u a' D → Calls Try.prog 12 #[.slice a nd c, .slice a' nd c'] u fun e w' => e = .returned (.bool true) ∧ Below u.heap.size u w') := Lib.hid (fun u a c a' c' h1 h2 => by
        have := crSame_any a a' c c' D D u h1 h2 (by omega) nd nd hnd.symm hnd.symm
        rw [sameC_refl] at this
        exact this)
      have HAB : Hid (∀ u, EntsAt u aA lA → EntsAt u aB lB → Calls Try.prog 17 #[.slice aA nA cA, .slice aB nB cB] u fun e w' => e = .returned (.bool bb) ∧ Below u.heap.size u w') := Lib.hid (fun u h1 h2 => by
        have := cSame_any aA aB cA cB lA lB u h1 h2 HlA.out nA nB HNA.out HNB.out
        rw [hbb] at this
        exact this)
      have HABr : Hid (∀ u, EntsAt u aA lA → EntsAt u aB lB → Calls Try.prog 12 #[.slice aA nA cA, .slice aB nB cB] u fun e w' => e = .returned (.bool bb) ∧ Below u.heap.size u w') := Lib.hid (fun u h1 h2 => by
        have := crSame_any aA aB cA cB lA lB u h1 h2 HlA.out nA nB HNA.out HNB.out
        rw [hbb] at this
        exact this)
      have HCs : Hid (∀ u, QrC u sb bm R a1 n1 c1 S1 S1 → Calls Try.prog 18 #[.pointer (some ⟨sb, 0, none⟩), .agg #[.slice a1 n1 c1]] u fun e w' => e = .returned (.bool true) ∧ Below u.heap.size u w') := Lib.hid (fun u hu => csame_any sb bm S1 a1 c1 u hu.1 hu.2.2.2.1 n1 hu.2.2.1)
      have hee := fun w => run_eqE ⟨ky, ty, oy, vy, uy⟩ ⟨ky, ty, oy, vy, uy⟩ w
      rw [eqEn_refl] at hee
      dsimp only at hee
      clear hV hD hnv hnd hbb hvl hdl HY HNA HNB HlA HlB HS1 HKy HFB HR1
      go_wp2_with fail
      rw [← HZz.out]
      generalize (w9.alloc (.cells #[.string ky, .int .i64 ty, .int .u16 oy, .string vy, .int .i64 uy] 36)) = w10 at *
      obtain ⟨p, y1, y2, xA, xB, q⟩ := HS10.out
      have dd : Below w10.heap.size w10 w10.drew := (Below.refl _ _).drew
      refine wp_region_any (by kernel_rfl) ?_
      change wpAny _ _ _ _ _ _ _ (World.drew _)
      have hS : (fun w' : World => QrC w' sb bm R a1 n1 c1 S1 S1 ∧ EBlk w' X ⟨ky, ty, oy, vy, uy⟩ ∧ EBlk w' Zz ⟨ky, ty, oy, vy, uy⟩ ∧ EntsAt w' aA lA ∧ EntsAt w' aB lB ∧ Below W.heap.size W w') w10.drew := ⟨p.on dd, y1.on dd, y2.on dd, xA.on dd, xB.on dd, q.trans (dd.mono q.size)⟩
      refine wpAny_of_held (S := fun w' => QrC w' sb bm R a1 n1 c1 S1 S1 ∧ EBlk w' X ⟨ky, ty, oy, vy, uy⟩ ∧ EBlk w' Zz ⟨ky, ty, oy, vy, uy⟩ ∧ EntsAt w' aA lA ∧ EntsAt w' aB lB ∧ Below W.heap.size W w') _ _ _ _ ?_
      clear p y1 y2 xA xB q dd HS10
      refine wpAnyH_takeE (i := 0) (some 53) (v := ?_) rfl rfl (by as_aux_lemma => kernel_rfl) (by as_aux_lemma => kernel_rfl) (by as_aux_lemma => kernel_rfl) (fun _ _ _ h => h) (Or.inl ⟨by kernel_rfl, ?_⟩) hS ?_
      rotate_left
      · intro w hSw; skip; go_simp
        first | done | with_reducible rfl
      refine wpAnyH_takeE (i := 1) (some 54) (v := ?_) rfl rfl (by as_aux_lemma => kernel_rfl) (by as_aux_lemma => kernel_rfl) (by as_aux_lemma => kernel_rfl) (fun _ _ _ h => h) (Or.inl ⟨by kernel_rfl, ?_⟩) hS ?_
      rotate_left
      · intro w hSw; skip; go_simp
        first | done | with_reducible rfl
      refine wpAnyH_takeE (i := 2) (some 55) (v := ?_) rfl rfl (by as_aux_lemma => kernel_rfl) (by as_aux_lemma => kernel_rfl) (by as_aux_lemma => kernel_rfl) (fun _ _ _ h => h) (Or.inl ⟨by kernel_rfl, ?_⟩) hS ?_
      rotate_left
      · intro w hSw; skip; go_simp
        first | done | with_reducible rfl
      refine wpAnyH_takeE (i := 3) (some 56) (v := ?_) rfl rfl (by as_aux_lemma => kernel_rfl) (by as_aux_lemma => kernel_rfl) (by as_aux_lemma => kernel_rfl) (fun _ _ _ h => h) (Or.inl ⟨by kernel_rfl, ?_⟩) hS ?_
      rotate_left
      · intro w hSw; skip; go_simp
        first | done | with_reducible rfl
      refine wpAnyH_takeE (i := 4) (some 57) (v := ?_) rfl rfl (by as_aux_lemma => kernel_rfl) (by as_aux_lemma => kernel_rfl) (by as_aux_lemma => kernel_rfl) (fun _ _ _ h => h) (Or.inl ⟨by kernel_rfl, ?_⟩) hS ?_
      rotate_left
      · intro w hSw; have r0 := hSw.1.2.1.c0; obtain ⟨e0, e1, e2, e3, e4⟩ := And.intro hSw.2.1.c0 (And.intro hSw.2.1.c1 (And.intro hSw.2.1.c2 (And.intro hSw.2.1.c3 hSw.2.1.c4))); obtain ⟨f0, f1, f2, f3, f4⟩ := And.intro hSw.2.2.1.c0 (And.intro hSw.2.2.1.c1 (And.intro hSw.2.2.1.c2 (And.intro hSw.2.2.1.c3 hSw.2.2.1.c4))); dsimp only at e0 e1 e2 e3 e4 f0 f1 f2 f3 f4; go_simp
        first | done | with_reducible rfl
      refine wpAnyH_takeE (i := 5) (some 58) (v := ?_) rfl rfl (by as_aux_lemma => kernel_rfl) (by as_aux_lemma => kernel_rfl) (by as_aux_lemma => kernel_rfl) (fun _ _ _ h => h) (Or.inl ⟨by kernel_rfl, ?_⟩) hS ?_
      rotate_left
      · intro w hSw; have r0 := hSw.1.2.1.c0; obtain ⟨e0, e1, e2, e3, e4⟩ := And.intro hSw.2.1.c0 (And.intro hSw.2.1.c1 (And.intro hSw.2.1.c2 (And.intro hSw.2.1.c3 hSw.2.1.c4))); obtain ⟨f0, f1, f2, f3, f4⟩ := And.intro hSw.2.2.1.c0 (And.intro hSw.2.2.1.c1 (And.intro hSw.2.2.1.c2 (And.intro hSw.2.2.1.c3 hSw.2.2.1.c4))); dsimp only at e0 e1 e2 e3 e4 f0 f1 f2 f3 f4; go_simp
        first | done | with_reducible rfl
      refine wpAnyH_takeE (i := 6) (some 59) (v := ?_) rfl rfl (by as_aux_lemma => kernel_rfl) (by as_aux_lemma => kernel_rfl) (by as_aux_lemma => kernel_rfl) (fun _ _ _ h => h) (Or.inl ⟨by kernel_rfl, ?_⟩) hS ?_
      rotate_left
      · intro w hSw; skip; go_simp
        first | done | with_reducible rfl
      refine wpAnyH_takeE (i := 7) (some 60) (v := ?_) rfl rfl (by as_aux_lemma => kernel_rfl) (by as_aux_lemma => kernel_rfl) (by as_aux_lemma => kernel_rfl) (fun _ _ _ h => h) (Or.inl ⟨by kernel_rfl, ?_⟩) hS ?_
      rotate_left
      · intro w hSw; skip; go_simp
        first | done | with_reducible rfl
      refine wpAnyH_takeE (i := 8) (some 61) (v := ?_) rfl rfl (by as_aux_lemma => kernel_rfl) (by as_aux_lemma => kernel_rfl) (by as_aux_lemma => kernel_rfl) (fun _ _ _ h => h) (Or.inl ⟨by kernel_rfl, ?_⟩) hS ?_
      rotate_left
      · intro w hSw; skip; go_simp
        first | done | with_reducible rfl
      refine wpAnyH_takeE (i := 9) (some 62) (v := ?_) rfl rfl (by as_aux_lemma => kernel_rfl) (by as_aux_lemma => kernel_rfl) (by as_aux_lemma => kernel_rfl) (fun _ _ _ h => h) (Or.inl ⟨by kernel_rfl, ?_⟩) hS ?_
      rotate_left
      · intro w hSw; skip; go_simp
        first | done | with_reducible rfl
      refine wpAnyH_takeE (i := 10) (some 63) (v := ?_) rfl rfl (by as_aux_lemma => kernel_rfl) (by as_aux_lemma => kernel_rfl) (by as_aux_lemma => kernel_rfl) (fun _ _ _ h => h) (Or.inl ⟨by kernel_rfl, ?_⟩) hS ?_
      rotate_left
      · intro w hSw; skip; go_simp
        first | done | with_reducible rfl
      refine wpAnyH_takeE (i := 11) (some 64) (v := ?_) rfl rfl (by as_aux_lemma => kernel_rfl) (by as_aux_lemma => kernel_rfl) (by as_aux_lemma => kernel_rfl) (fun _ _ _ h => h) (Or.inl ⟨by kernel_rfl, ?_⟩) hS ?_
      rotate_left
      · intro w hSw; skip; go_simp
        first | done | with_reducible rfl
      refine wpAnyH_takeE (i := 12) (some 65) (v := ?_) rfl rfl (by as_aux_lemma => kernel_rfl) (by as_aux_lemma => kernel_rfl) (by as_aux_lemma => kernel_rfl) (fun _ _ _ h => h) (Or.inl ⟨by kernel_rfl, ?_⟩) hS ?_
      rotate_left
      · intro w hSw; skip; go_simp
        first | done | with_reducible rfl
      refine wpAnyH_takeE (i := 13) (some 66) (v := ?_) rfl rfl (by as_aux_lemma => kernel_rfl) (by as_aux_lemma => kernel_rfl) (by as_aux_lemma => kernel_rfl) (fun _ _ _ h => h) (Or.inl ⟨by kernel_rfl, ?_⟩) hS ?_
      rotate_left
      · intro w hSw; skip; go_simp
        first | done | with_reducible rfl
      refine wpAnyH_takeE (i := 14) (some 67) (v := ?_) rfl rfl (by as_aux_lemma => kernel_rfl) (by as_aux_lemma => kernel_rfl) (by as_aux_lemma => kernel_rfl) (fun _ _ _ h => h) (Or.inl ⟨by kernel_rfl, ?_⟩) hS ?_
      rotate_left
      · intro w hSw; skip; go_simp
        first | done | with_reducible rfl
      refine wpAnyH_takeE (i := 15) (some 68) (v := ?_) rfl rfl (by as_aux_lemma => kernel_rfl) (by as_aux_lemma => kernel_rfl) (by as_aux_lemma => kernel_rfl) (fun _ _ _ h => h) (Or.inl ⟨by kernel_rfl, ?_⟩) hS ?_
      rotate_left
      · intro w hSw; skip; go_simp
        first | done | with_reducible rfl
      refine wpAnyH_takeE (i := 17) (some 70) (v := ?_) rfl rfl (by as_aux_lemma => kernel_rfl) (by as_aux_lemma => kernel_rfl) (by as_aux_lemma => kernel_rfl) (fun _ _ _ h => h) (Or.inl ⟨by kernel_rfl, ?_⟩) hS ?_
      rotate_left
      · intro w hSw; have r0 := hSw.1.2.1.c0; obtain ⟨e0, e1, e2, e3, e4⟩ := And.intro hSw.2.1.c0 (And.intro hSw.2.1.c1 (And.intro hSw.2.1.c2 (And.intro hSw.2.1.c3 hSw.2.1.c4))); obtain ⟨f0, f1, f2, f3, f4⟩ := And.intro hSw.2.2.1.c0 (And.intro hSw.2.2.1.c1 (And.intro hSw.2.2.1.c2 (And.intro hSw.2.2.1.c3 hSw.2.2.1.c4))); dsimp only at e0 e1 e2 e3 e4 f0 f1 f2 f3 f4; go_simp
        first | done | with_reducible rfl
      refine wpAnyH_takeE (i := 18) (some 71) (v := ?_) rfl rfl (by as_aux_lemma => kernel_rfl) (by as_aux_lemma => kernel_rfl) (by as_aux_lemma => kernel_rfl) (fun _ _ _ h => h) (Or.inl ⟨by kernel_rfl, ?_⟩) hS ?_
      rotate_left
      · intro w hSw; skip; go_simp
        first | done | with_reducible rfl
      refine wpAnyH_ready (rs := [16]) (by as_aux_lemma => kernel_rfl) (by simp) ?_
      refine AllReadyH.cons rfl (fun K hK => ?_) AllReadyH.nil
      go_simp
      go_wp2_with (go_at_call 13; refine (HVw.out _ hS.1.1).mono ?_; rintro e u ⟨av1, cv1, rfl, hv1, q⟩)
      refine hK.out _ _ ?_ (fun hS => ?_)
      · exact ⟨hS.1.on q, hS.2.1.on q, hS.2.2.1.on q, hS.2.2.2.1.on q, hS.2.2.2.2.1.on q, hS.2.2.2.2.2.trans (q.mono hS.2.2.2.2.2.size)⟩
      clear hK K
      clear q
      refine wpAnyH_ready (rs := [19]) (by as_aux_lemma => kernel_rfl) (by simp) ?_
      refine AllReadyH.cons rfl (fun K hK => ?_) AllReadyH.nil
      go_simp
      go_wp2_with (go_at_call 14; refine (HVr.out _ hS.1.2.2.2.1).mono ?_; rintro e u ⟨av2, cv2, rfl, hv2, q⟩)
      refine hK.out _ _ ?_ (fun hS => ?_)
      · exact ⟨hS.1.on q, hS.2.1.on q, hS.2.2.1.on q, hS.2.2.2.1.on q, hS.2.2.2.2.1.on q, hS.2.2.2.2.2.trans (q.mono hS.2.2.2.2.2.size)⟩
      clear hK K
      replace hv1 := hv1.on q
      clear q
      refine wpAnyH_ready (rs := [20]) (by as_aux_lemma => kernel_rfl) (by simp) ?_
      refine AllReadyH.cons rfl (fun K hK => ?_) AllReadyH.nil
      go_simp
      go_wp2_with (go_at_call 12; refine (HSV.out _ _ _ _ _ hv1 hv2).mono ?_; rintro e u ⟨rfl, q⟩)
      refine hK.out _ _ ?_ (fun hS => ?_)
      · exact ⟨hS.1.on q, hS.2.1.on q, hS.2.2.1.on q, hS.2.2.2.1.on q, hS.2.2.2.2.1.on q, hS.2.2.2.2.2.trans (q.mono hS.2.2.2.2.2.size)⟩
      clear hK K
      clear q
      refine wpAnyH_takeE (i := 21) (some 74) (v := ?_) rfl rfl (by as_aux_lemma => kernel_rfl) (by as_aux_lemma => kernel_rfl) (by as_aux_lemma => kernel_rfl) (fun _ _ _ h => h) (Or.inl ⟨by kernel_rfl, ?_⟩) hS ?_
      rotate_left
      · intro w hSw; skip; go_simp
        first | done | with_reducible rfl
      refine wpAnyH_takeE (i := 22) (some 75) (v := ?_) rfl rfl (by as_aux_lemma => kernel_rfl) (by as_aux_lemma => kernel_rfl) (by as_aux_lemma => kernel_rfl) (fun _ _ _ h => h) (Or.inl ⟨by kernel_rfl, ?_⟩) hS ?_
      rotate_left
      · intro w hSw; skip; go_simp
        first | done | with_reducible rfl
      refine wpAnyH_takeE (i := 23) (some 76) (v := ?_) rfl rfl (by as_aux_lemma => kernel_rfl) (by as_aux_lemma => kernel_rfl) (by as_aux_lemma => kernel_rfl) (fun _ _ _ h => h) (Or.inl ⟨by kernel_rfl, ?_⟩) hS ?_
      rotate_left
      · intro w hSw; skip; go_simp
        first | done | with_reducible rfl
      refine wpAnyH_takeE (i := 24) (some 77) (v := ?_) rfl rfl (by as_aux_lemma => kernel_rfl) (by as_aux_lemma => kernel_rfl) (by as_aux_lemma => kernel_rfl) (fun _ _ _ h => h) (Or.inl ⟨by kernel_rfl, ?_⟩) hS ?_
      rotate_left
      · intro w hSw; skip; go_simp
        first | done | with_reducible rfl
      refine wpAnyH_takeE (i := 26) (some 79) (v := ?_) rfl rfl (by as_aux_lemma => kernel_rfl) (by as_aux_lemma => kernel_rfl) (by as_aux_lemma => kernel_rfl) (fun _ _ _ h => h) (Or.inl ⟨by kernel_rfl, ?_⟩) hS ?_
      rotate_left
      · intro w hSw; have r0 := hSw.1.2.1.c0; obtain ⟨e0, e1, e2, e3, e4⟩ := And.intro hSw.2.1.c0 (And.intro hSw.2.1.c1 (And.intro hSw.2.1.c2 (And.intro hSw.2.1.c3 hSw.2.1.c4))); obtain ⟨f0, f1, f2, f3, f4⟩ := And.intro hSw.2.2.1.c0 (And.intro hSw.2.2.1.c1 (And.intro hSw.2.2.1.c2 (And.intro hSw.2.2.1.c3 hSw.2.2.1.c4))); dsimp only at e0 e1 e2 e3 e4 f0 f1 f2 f3 f4; go_simp
        first | done | with_reducible rfl
      refine wpAnyH_takeE (i := 27) (some 80) (v := ?_) rfl rfl (by as_aux_lemma => kernel_rfl) (by as_aux_lemma => kernel_rfl) (by as_aux_lemma => kernel_rfl) (fun _ _ _ h => h) (Or.inl ⟨by kernel_rfl, ?_⟩) hS ?_
      rotate_left
      · intro w hSw; skip; go_simp
        first | done | with_reducible rfl
      refine wpAnyH_ready (rs := [25]) (by as_aux_lemma => kernel_rfl) (by simp) ?_
      refine AllReadyH.cons rfl (fun K hK => ?_) AllReadyH.nil
      go_simp
      go_wp2_with (go_at_call 15; refine (HDw.out _ hS.1.1 hS.2.2.2.2.1).mono ?_; rintro e u ⟨ad1, cd1, rfl, hd1, q⟩)
      refine hK.out _ _ ?_ (fun hS => ?_)
      · exact ⟨hS.1.on q, hS.2.1.on q, hS.2.2.1.on q, hS.2.2.2.1.on q, hS.2.2.2.2.1.on q, hS.2.2.2.2.2.trans (q.mono hS.2.2.2.2.2.size)⟩
      clear hK K
      clear q
      refine wpAnyH_ready (rs := [28]) (by as_aux_lemma => kernel_rfl) (by simp) ?_
      refine AllReadyH.cons rfl (fun K hK => ?_) AllReadyH.nil
      go_simp
      go_wp2_with (go_at_call 16; refine (HDr.out _ hS.1.2.2.2.1 hS.2.2.2.2.1).mono ?_; rintro e u ⟨ad2, cd2, rfl, hd2, q⟩)
      refine hK.out _ _ ?_ (fun hS => ?_)
      · exact ⟨hS.1.on q, hS.2.1.on q, hS.2.2.1.on q, hS.2.2.2.1.on q, hS.2.2.2.2.1.on q, hS.2.2.2.2.2.trans (q.mono hS.2.2.2.2.2.size)⟩
      clear hK K
      replace hd1 := hd1.on q
      clear q
      refine wpAnyH_ready (rs := [29]) (by as_aux_lemma => kernel_rfl) (by simp) ?_
      refine AllReadyH.cons rfl (fun K hK => ?_) AllReadyH.nil
      go_simp
      go_wp2_with (go_at_call 12; refine (HSD.out _ _ _ _ _ hd1 hd2).mono ?_; rintro e u ⟨rfl, q⟩)
      refine hK.out _ _ ?_ (fun hS => ?_)
      · exact ⟨hS.1.on q, hS.2.1.on q, hS.2.2.1.on q, hS.2.2.2.1.on q, hS.2.2.2.2.1.on q, hS.2.2.2.2.2.trans (q.mono hS.2.2.2.2.2.size)⟩
      clear hK K
      clear q
      refine wpAnyH_takeE (i := 30) (some 83) (v := ?_) rfl rfl (by as_aux_lemma => kernel_rfl) (by as_aux_lemma => kernel_rfl) (by as_aux_lemma => kernel_rfl) (fun _ _ _ h => h) (Or.inl ⟨by kernel_rfl, ?_⟩) hS ?_
      rotate_left
      · intro w hSw; skip; go_simp
        first | done | with_reducible rfl
      refine wpAnyH_takeE (i := 31) (some 84) (v := ?_) rfl rfl (by as_aux_lemma => kernel_rfl) (by as_aux_lemma => kernel_rfl) (by as_aux_lemma => kernel_rfl) (fun _ _ _ h => h) (Or.inl ⟨by kernel_rfl, ?_⟩) hS ?_
      rotate_left
      · intro w hSw; skip; go_simp
        first | done | with_reducible rfl
      refine wpAnyH_takeE (i := 32) (some 85) (v := ?_) rfl rfl (by as_aux_lemma => kernel_rfl) (by as_aux_lemma => kernel_rfl) (by as_aux_lemma => kernel_rfl) (fun _ _ _ h => h) (Or.inl ⟨by kernel_rfl, ?_⟩) hS ?_
      rotate_left
      · intro w hSw; skip; go_simp
        first | done | with_reducible rfl
      refine wpAnyH_takeE (i := 33) (some 86) (v := ?_) rfl rfl (by as_aux_lemma => kernel_rfl) (by as_aux_lemma => kernel_rfl) (by as_aux_lemma => kernel_rfl) (fun _ _ _ h => h) (Or.inl ⟨by kernel_rfl, ?_⟩) hS ?_
      rotate_left
      · intro w hSw; skip; go_simp
        first | done | with_reducible rfl
      refine wpAnyH_takeE (i := 35) (some 88) (v := ?_) rfl rfl (by as_aux_lemma => kernel_rfl) (by as_aux_lemma => kernel_rfl) (by as_aux_lemma => kernel_rfl) (fun _ _ _ h => h) (Or.inl ⟨by kernel_rfl, ?_⟩) hS ?_
      rotate_left
      · intro w hSw; skip; go_simp
        first | done | with_reducible rfl
      refine wpAnyH_takeE (i := 36) (some 89) (v := ?_) rfl rfl (by as_aux_lemma => kernel_rfl) (by as_aux_lemma => kernel_rfl) (by as_aux_lemma => kernel_rfl) (fun _ _ _ h => h) (Or.inl ⟨by kernel_rfl, ?_⟩) hS ?_
      rotate_left
      · intro w hSw; skip; go_simp
        first | done | with_reducible rfl
      refine wpAnyH_ready (rs := [34]) (by as_aux_lemma => kernel_rfl) (by simp) ?_
      refine AllReadyH.cons rfl (fun K hK => ?_) AllReadyH.nil
      go_simp
      go_wp2_with (go_at_call 17; refine (HAB.out _ hS.2.2.2.1 hS.2.2.2.2.1).mono ?_; rintro e u ⟨rfl, q⟩)
      refine hK.out _ _ ?_ (fun hS => ?_)
      · exact ⟨hS.1.on q, hS.2.1.on q, hS.2.2.1.on q, hS.2.2.2.1.on q, hS.2.2.2.2.1.on q, hS.2.2.2.2.2.trans (q.mono hS.2.2.2.2.2.size)⟩
      clear hK K
      clear q
      refine wpAnyH_ready (rs := [37]) (by as_aux_lemma => kernel_rfl) (by simp) ?_
      refine AllReadyH.cons rfl (fun K hK => ?_) AllReadyH.nil
      go_simp
      go_wp2_with (go_at_call 12; refine (HABr.out _ hS.2.2.2.1 hS.2.2.2.2.1).mono ?_; rintro e u ⟨rfl, q⟩)
      refine hK.out _ _ ?_ (fun hS => ?_)
      · exact ⟨hS.1.on q, hS.2.1.on q, hS.2.2.1.on q, hS.2.2.2.1.on q, hS.2.2.2.2.1.on q, hS.2.2.2.2.2.trans (q.mono hS.2.2.2.2.2.size)⟩
      clear hK K
      clear q
      refine wpAnyH_takeE (i := 38) (some 91) (v := ?_) rfl rfl (by as_aux_lemma => kernel_rfl) (by as_aux_lemma => kernel_rfl) (by as_aux_lemma => kernel_rfl) (fun _ _ _ h => h) (Or.inl ⟨by kernel_rfl, ?_⟩) hS ?_
      rotate_left
      · intro w hSw; skip; go_simp
        first | done | with_reducible rfl
      refine wpAnyH_takeE (i := 39) (some 92) (v := ?_) rfl rfl (by as_aux_lemma => kernel_rfl) (by as_aux_lemma => kernel_rfl) (by as_aux_lemma => kernel_rfl) (fun _ _ _ h => h) (Or.inl ⟨by kernel_rfl, ?_⟩) hS ?_
      rotate_left
      · intro w hSw; skip; go_simp
        first | done | with_reducible rfl
      refine wpAnyH_takeE (i := 40) (some 93) (v := ?_) rfl rfl (by as_aux_lemma => kernel_rfl) (by as_aux_lemma => kernel_rfl) (by as_aux_lemma => kernel_rfl) (fun _ _ _ h => h) (Or.inl ⟨by kernel_rfl, ?_⟩) hS ?_
      rotate_left
      · intro w hSw; skip; go_simp
        first | done | with_reducible rfl
      refine wpAnyH_takeE (i := 41) (some 94) (v := ?_) rfl rfl (by as_aux_lemma => kernel_rfl) (by as_aux_lemma => kernel_rfl) (by as_aux_lemma => kernel_rfl) (fun _ _ _ h => h) (Or.inl ⟨by kernel_rfl, ?_⟩) hS ?_
      rotate_left
      · intro w hSw; skip; go_simp
        first | done | with_reducible rfl
      refine wpAnyH_takeE (i := 42) (some 95) (v := ?_) rfl rfl (by as_aux_lemma => kernel_rfl) (by as_aux_lemma => kernel_rfl) (by as_aux_lemma => kernel_rfl) (fun _ _ _ h => h) (Or.inl ⟨by kernel_rfl, ?_⟩) hS ?_
      rotate_left
      · intro w hSw; have r0 := hSw.1.2.1.c0; obtain ⟨e0, e1, e2, e3, e4⟩ := And.intro hSw.2.1.c0 (And.intro hSw.2.1.c1 (And.intro hSw.2.1.c2 (And.intro hSw.2.1.c3 hSw.2.1.c4))); obtain ⟨f0, f1, f2, f3, f4⟩ := And.intro hSw.2.2.1.c0 (And.intro hSw.2.2.1.c1 (And.intro hSw.2.2.1.c2 (And.intro hSw.2.2.1.c3 hSw.2.2.1.c4))); dsimp only at e0 e1 e2 e3 e4 f0 f1 f2 f3 f4; go_simp
        first | done | with_reducible rfl
      refine wpAnyH_ready (rs := [43]) (by as_aux_lemma => kernel_rfl) (by simp) ?_
      refine AllReadyH.cons rfl (fun K hK => ?_) AllReadyH.nil
      go_simp
      go_wp2_with (go_at_call 18; refine (HCs.out _ hS.1).mono ?_; rintro e u ⟨rfl, q⟩)
      refine hK.out _ _ ?_ (fun hS => ?_)
      · exact ⟨hS.1.on q, hS.2.1.on q, hS.2.2.1.on q, hS.2.2.2.1.on q, hS.2.2.2.2.1.on q, hS.2.2.2.2.2.trans (q.mono hS.2.2.2.2.2.size)⟩
      clear hK K
      clear q
      refine wpAnyH_takeE (i := 44) (some 97) (v := ?_) rfl rfl (by as_aux_lemma => kernel_rfl) (by as_aux_lemma => kernel_rfl) (by as_aux_lemma => kernel_rfl) (fun _ _ _ h => h) (Or.inl ⟨by kernel_rfl, ?_⟩) hS ?_
      rotate_left
      · intro w hSw; skip; go_simp
        first | done | with_reducible rfl
      refine wpAnyH_takeE (i := 45) (some 98) (v := ?_) rfl rfl (by as_aux_lemma => kernel_rfl) (by as_aux_lemma => kernel_rfl) (by as_aux_lemma => kernel_rfl) (fun _ _ _ h => h) (Or.inl ⟨by kernel_rfl, ?_⟩) hS ?_
      rotate_left
      · intro w hSw; skip; go_simp
        first | done | with_reducible rfl
      refine wpAnyH_ready (rs := [46]) (by as_aux_lemma => kernel_rfl) (by simp) ?_
      refine AllReadyH.cons rfl (fun K hK => ?_) AllReadyH.nil
      go_simp
      go_wp2_with (go_at_call 6; refine (cawake_any _).mono ?_; rintro e u ⟨rfl, q⟩)
      refine hK.out _ _ ?_ (fun hS => ?_)
      · exact ⟨hS.1.on q, hS.2.1.on q, hS.2.2.1.on q, hS.2.2.2.1.on q, hS.2.2.2.2.1.on q, hS.2.2.2.2.2.trans (q.mono hS.2.2.2.2.2.size)⟩
      clear hK K
      clear q
      refine wpAnyH_takeE (i := 47) (some 100) (v := ?_) rfl rfl (by as_aux_lemma => kernel_rfl) (by as_aux_lemma => kernel_rfl) (by as_aux_lemma => kernel_rfl) (fun _ _ _ h => h) (Or.inl ⟨by kernel_rfl, ?_⟩) hS ?_
      rotate_left
      · intro w hSw; skip; go_simp
        first | done | with_reducible rfl
      refine wpAnyH_takeE (i := 48) (some 6) (v := ?_) rfl rfl (by as_aux_lemma => kernel_rfl) (by as_aux_lemma => kernel_rfl) (by as_aux_lemma => kernel_rfl) (fun _ _ _ h => h) (Or.inl ⟨by kernel_rfl, ?_⟩) hS ?_
      rotate_left
      · intro w hSw; skip; go_simp
        first | done | with_reducible rfl
      have HF := Lib.hid hS.2.2.2.2.2
      refine wpAnyH_done (by kernel_rfl) ?_ _
      clear hS
      go_simp
      go_wp2
      go_ret
      exact ⟨rfl, HF.out⟩
    · rw [decide_eq_false h2] at HL2
      clear hA hB heA heB h1 h2 hkey hfB
      go_enter Try.func3, Try.ntmps3
      go_wp2_with (go_at_call 5; refine (HL1.out _).mono ?_; rintro e w1 ⟨rfl, q1⟩; replace q1 := Lib.hid q1; refine Hid.out ?_)
      refine Lib.hid ?_
      go_wp2_with (go_at_call 5; refine (HL2.out _).mono ?_; rintro e w2 ⟨rfl, q2⟩; replace q2 := Lib.hid q2; refine Hid.out ?_)
      refine Lib.hid ?_
      go_wp2_with (go_at_call 6; refine (cawake_any _).mono ?_; rintro e w10 ⟨rfl, q10⟩)
      go_ret
      have Q := HD0.out.trans ((q1.out.trans (q2.out.mono q1.out.size)).mono HD0.out.size)
      exact ⟨rfl, Q.trans (q10.mono Q.size)⟩
  · rw [decide_eq_false h1] at HL1
    clear hA hB heA heB h1 hkey hfB
    go_enter Try.func3, Try.ntmps3
    go_wp2_with (go_at_call 5; refine (HL1.out _).mono ?_; rintro e w1 ⟨rfl, q1⟩; replace q1 := Lib.hid q1; refine Hid.out ?_)
    refine Lib.hid ?_
    go_wp2_with (go_at_call 6; refine (cawake_any _).mono ?_; rintro e w10 ⟨rfl, q10⟩)
    go_ret
    have Q := HD0.out.trans (q1.out.mono HD0.out.size)
    exact ⟨rfl, Q.trans (q10.mono Q.size)⟩

end Go.Proofs.Ytkbonifbnbdbkab
