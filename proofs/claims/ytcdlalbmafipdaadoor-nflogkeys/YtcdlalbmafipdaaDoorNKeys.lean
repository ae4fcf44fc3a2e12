/-
  The walk of NflogKeys: unlike receivers, or unlike groups, have unlike keys.
-/
import Derived.Test.YtcdlalbmafipdaaDoorN4
import Derived.ChangeKeysEq
namespace Go.Proofs.YtcdlalbmafipdaaDoor
open Go.RowKit

/-- A block of two texts. -/
def StBlk2 (w : World) (B : Nat) (f g : ByteArray) : Prop := w.heap[B]? = some (.cells #[.string f, .string g] 44 (0, 0))
theorem StBlk2.lt {w : World} {B : Nat} {f g : ByteArray} (h : StBlk2 w B f g) : B < w.heap.size := ltE h
theorem StBlk2.on {w w' : World} {B : Nat} {f g : ByteArray} (h : StBlk2 w B f g) (hb : Below w.heap.size w w') : StBlk2 w' B f g := (hb.block B h.lt).trans h
theorem StBlk2.c0 {w : World} {B : Nat} {f g : ByteArray} (h : StBlk2 w B f g) : w.cell? ⟨B, 0, none⟩ = some (.string f) := cellE h
theorem StBlk2.c1 {w : World} {B : Nat} {f g : ByteArray} (h : StBlk2 w B f g) : w.cell? ⟨B, 1, none⟩ = some (.string g) := cellE h

theorem keyN_inj {r g r' g' : ByteArray} (hr : r.size ≤ 1048576) (hg : g.size ≤ 1048576) (hr' : r'.size ≤ 1048576) (hg' : g'.size ≤ 1048576) (h : keyN r g = keyN r' g') : r = r' ∧ g = g' := by
  have e := congrArg (fun k : ByteArray => k.data.toList) h
  have n1 : r.data.toList.length = r.size := rfl
  have n2 : g.data.toList.length = g.size := rfl
  have n3 : r'.data.toList.length = r'.size := rfl
  have n4 : g'.data.toList.length = g'.size := rfl
  have e2 : putText r.data.toList ++ (putText g.data.toList ++ [101]) = putText r'.data.toList ++ (putText g'.data.toList ++ [101]) := by
    simpa [keyN, putList, partsN] using e
  have q1 : textE 1048576 0 (putText r.data.toList ++ (putText g.data.toList ++ [101])) = (putText g.data.toList ++ [101], 0, r.data.toList) := read_putText _ (by omega) 1048576 (by omega) _
  have q2 : textE 1048576 0 (putText r'.data.toList ++ (putText g'.data.toList ++ [101])) = (putText g'.data.toList ++ [101], 0, r'.data.toList) := read_putText _ (by omega) 1048576 (by omega) _
  rw [e2, q2] at q1
  obtain ⟨f1, f2⟩ := Prod.mk.inj q1
  obtain ⟨-, f3⟩ := Prod.mk.inj f2
  have q3 : textE 1048576 0 (putText g.data.toList ++ [101]) = ([101], 0, g.data.toList) := read_putText _ (by omega) 1048576 (by omega) _
  have q4 : textE 1048576 0 (putText g'.data.toList ++ [101]) = ([101], 0, g'.data.toList) := read_putText _ (by omega) 1048576 (by omega) _
  rw [f1, q3] at q4
  obtain ⟨-, f5⟩ := Prod.mk.inj q4
  obtain ⟨-, f6⟩ := Prod.mk.inj f5
  exact ⟨bytes_ext f3.symm, bytes_ext f6⟩
theorem keyN_eq (r g r' g' : ByteArray) (hr : r.size ≤ 1048576) (hg : g.size ≤ 1048576) (hr' : r'.size ≤ 1048576) (hg' : g'.size ≤ 1048576) : ((keyN r g).toList == (keyN r' g').toList) = (r.toList == r'.toList && g.toList == g'.toList) := by
  rw [Bool.eq_iff_iff]
  simp only [Bool.and_eq_true, beq_iff_eq, ByteArray.toList_eq]
  constructor
  · intro h
    obtain ⟨rfl, rfl⟩ := keyN_inj hr hg hr' hg' (bytes_ext h)
    exact ⟨rfl, rfl⟩
  · intro ⟨h1, h2⟩
    rw [bytes_ext h1, bytes_ext h2]
theorem infoStrN : ∃ i, Tryd.prog.info? 9 = some i := by
  have : (Tryd.prog.info? 9).isSome = true := by kernel_rfl
  exact Option.isSome_iff_exists.1 this
theorem cellsStrN : Tryd.prog.cellsOf 9 = 1 := by kernel_rfl
set_option maxRecDepth 20000 in
theorem run_eqA (a b c d : ByteArray) (w : World) : (binOp .eql 44 (.agg #[.string a, .string b]) (.agg #[.string c, .string d])).run Tryd.prog w = .ok (.bool (a.toList == c.toList && b.toList == d.toList)) w := by
  obtain ⟨i, hi⟩ := infoStrN
  rw [run_eql_struct, show (10000 : Nat) = 9999 + 1 from rfl, run_equalIn_array w 9999 _ _ Tryd.underlying44 hi, cellsStrN]
  cases h0 : a.toList == c.toList <;> cases h1 : b.toList == d.toList <;> simp [Op.eqItems, List.range, List.range.loop, go_sem, part, h0, h1]

set_option maxRecDepth 100000 in
set_option maxHeartbeats 4000000 in
theorem keys_a (a0 a1 b0 b1 : ByteArray) (hs : a0.size + a1.size ≤ 281474976710656) (ht : b0.size + b1.size ≤ 281474976710656) (h1 : 20000 < a0.size + a1.size) (W : World) (hv : VarsOk W.heap.size W) :
    Calls Tryd.prog 7 #[.agg #[.string a0, .string a1], .agg #[.string b0, .string b1]] W fun e w' => e = .returned (.bool true) ∧ Below W.heap.size W w' := by
  have HA : Hid (∀ w, Below W.heap.size W w → Calls Tryd.prog 9 #[] w fun e w' => e = .returned (.bool true) ∧ Below w.heap.size w w') := Lib.hid (fun w hw => fawake_any W.heap.size w hw.size (hv.on hw))
  have d1 := (Below.refl W.heap.size W).alloc (Nat.le_refl _) (.cells #[.string a0, .string a1] 44)
  have d2 := d1.alloc (by simp) (.cells #[.string b0, .string b1] 44)
  have bk1' : StBlk2 (W.alloc (.cells #[.string a0, .string a1] 44)) W.heap.size a0 a1 := newE W _
  have bk1 := bk1'.on ((Below.refl _ _).alloc (Nat.le_refl _) (.cells #[.string b0, .string b1] 44))
  have bk2 : StBlk2 ((W.alloc (.cells #[.string a0, .string a1] 44)).alloc (.cells #[.string b0, .string b1] 44)) (W.alloc (.cells #[.string a0, .string a1] 44)).heap.size b0 b1 := newE _ _
  rw [World.size_alloc] at bk2
  have x0 := bk1.c0; have x1 := bk1.c1; have y0 := bk2.c0; have y1 := bk2.c1
  obtain ⟨A, hA⟩ : ∃ A : Int, A = (a0.size : Int) + (a1.size : Int) := ⟨_, rfl⟩
  obtain ⟨B, hB⟩ : ∃ B : Int, B = (b0.size : Int) + (b1.size : Int) := ⟨_, rfl⟩
  have wA : IntKind.i64.wrap ((a0.size : Int) + (a1.size : Int)) = A := by rw [IntKind.wrap_i64]; omega
  have wB : IntKind.i64.wrap ((b0.size : Int) + (b1.size : Int)) = B := by rw [IntKind.wrap_i64]; omega
  have g1 : 20000 < A := by omega
  clear hA hB h1 hs ht
  have HQ := Lib.hid d2
  clear d1 d2 bk1' bk1 bk2 hv
  go_enter Tryd.func7, Tryd.ntmps7
  go_wp2_with (go_at_call 9; refine (HA.out _ HQ.out).mono ?_; rintro e u ⟨rfl, q⟩; replace q := Lib.hid q; refine Hid.out ?_)
  refine Lib.hid ?_
  go_wp2
  go_ret
  exact ⟨rfl, HQ.out.trans (q.out.mono HQ.out.size)⟩
set_option maxRecDepth 100000 in
set_option maxHeartbeats 4000000 in
theorem keys_b (a0 a1 b0 b1 : ByteArray) (ht : b0.size + b1.size ≤ 281474976710656) (h1 : ¬ 20000 < a0.size + a1.size) (h2 : 20000 < b0.size + b1.size) (W : World) (hv : VarsOk W.heap.size W) :
    Calls Tryd.prog 7 #[.agg #[.string a0, .string a1], .agg #[.string b0, .string b1]] W fun e w' => e = .returned (.bool true) ∧ Below W.heap.size W w' := by
  have HA : Hid (∀ w, Below W.heap.size W w → Calls Tryd.prog 9 #[] w fun e w' => e = .returned (.bool true) ∧ Below w.heap.size w w') := Lib.hid (fun w hw => fawake_any W.heap.size w hw.size (hv.on hw))
  have d1 := (Below.refl W.heap.size W).alloc (Nat.le_refl _) (.cells #[.string a0, .string a1] 44)
  have d2 := d1.alloc (by simp) (.cells #[.string b0, .string b1] 44)
  have bk1' : StBlk2 (W.alloc (.cells #[.string a0, .string a1] 44)) W.heap.size a0 a1 := newE W _
  have bk1 := bk1'.on ((Below.refl _ _).alloc (Nat.le_refl _) (.cells #[.string b0, .string b1] 44))
  have bk2 : StBlk2 ((W.alloc (.cells #[.string a0, .string a1] 44)).alloc (.cells #[.string b0, .string b1] 44)) (W.alloc (.cells #[.string a0, .string a1] 44)).heap.size b0 b1 := newE _ _
  rw [World.size_alloc] at bk2
  have x0 := bk1.c0; have x1 := bk1.c1; have y0 := bk2.c0; have y1 := bk2.c1
  obtain ⟨A, hA⟩ : ∃ A : Int, A = (a0.size : Int) + (a1.size : Int) := ⟨_, rfl⟩
  obtain ⟨B, hB⟩ : ∃ B : Int, B = (b0.size : Int) + (b1.size : Int) := ⟨_, rfl⟩
  have wA : IntKind.i64.wrap ((a0.size : Int) + (a1.size : Int)) = A := by rw [IntKind.wrap_i64]; omega
  have wB : IntKind.i64.wrap ((b0.size : Int) + (b1.size : Int)) = B := by rw [IntKind.wrap_i64]; omega
  have g1 : ¬ 20000 < A := by omega
  have g2 : 20000 < B := by omega
  clear hA hB h1 h2 ht
  have HQ := Lib.hid d2
  clear d1 d2 bk1' bk1 bk2 hv
  go_enter Tryd.func7, Tryd.ntmps7
  go_wp2_with (go_at_call 9; refine (HA.out _ HQ.out).mono ?_; rintro e u ⟨rfl, q⟩; replace q := Lib.hid q; refine Hid.out ?_)
  refine Lib.hid ?_
  go_wp2
  go_ret
  exact ⟨rfl, HQ.out.trans (q.out.mono HQ.out.size)⟩
set_option maxRecDepth 100000 in
set_option maxHeartbeats 4000000 in
theorem keys_c (a0 a1 b0 b1 : ByteArray) (h1 : ¬ 20000 < a0.size + a1.size) (h2 : ¬ 20000 < b0.size + b1.size) (E : Bool) (hE : (a0.toList == b0.toList && a1.toList == b1.toList) = E) (W : World) (hv : VarsOk W.heap.size W) :
    Calls Tryd.prog 7 #[.agg #[.string a0, .string a1], .agg #[.string b0, .string b1]] W fun e w' => e = .returned (.bool true) ∧ Below W.heap.size W w' := by
  have HA : Hid (∀ w, Below W.heap.size W w → Calls Tryd.prog 9 #[] w fun e w' => e = .returned (.bool true) ∧ Below w.heap.size w w') := Lib.hid (fun w hw => fawake_any W.heap.size w hw.size (hv.on hw))
  have d1 := (Below.refl W.heap.size W).alloc (Nat.le_refl _) (.cells #[.string a0, .string a1] 44)
  have d2 := d1.alloc (by simp) (.cells #[.string b0, .string b1] 44)
  have bk1' : StBlk2 (W.alloc (.cells #[.string a0, .string a1] 44)) W.heap.size a0 a1 := newE W _
  have bk1 := bk1'.on ((Below.refl _ _).alloc (Nat.le_refl _) (.cells #[.string b0, .string b1] 44))
  have bk2 : StBlk2 ((W.alloc (.cells #[.string a0, .string a1] 44)).alloc (.cells #[.string b0, .string b1] 44)) (W.alloc (.cells #[.string a0, .string a1] 44)).heap.size b0 b1 := newE _ _
  rw [World.size_alloc] at bk2
  have x0 := bk1.c0; have x1 := bk1.c1; have y0 := bk2.c0; have y1 := bk2.c1
  obtain ⟨A, hA⟩ : ∃ A : Int, A = (a0.size : Int) + (a1.size : Int) := ⟨_, rfl⟩
  obtain ⟨B, hB⟩ : ∃ B : Int, B = (b0.size : Int) + (b1.size : Int) := ⟨_, rfl⟩
  have wA : IntKind.i64.wrap ((a0.size : Int) + (a1.size : Int)) = A := by rw [IntKind.wrap_i64]; omega
  have wB : IntKind.i64.wrap ((b0.size : Int) + (b1.size : Int)) = B := by rw [IntKind.wrap_i64]; omega
  have g1 : ¬ 20000 < A := by omega
  have g2 : ¬ 20000 < B := by omega
  have hk := keyN_eq a0 a1 b0 b1 (by omega) (by omega) (by omega) (by omega)
  have HK1 : Hid (∀ w, Below W.heap.size W w → Calls Tryd.prog 12 #[.string a0, .string a1] w fun e w' => e = .returned (.string (keyN a0 a1)) ∧ Below w.heap.size w w') := Lib.hid (fun w hw => fKey_any a0 a1 (by omega) (by omega) W.heap.size w hw.size (hv.on hw))
  have HK2 : Hid (∀ w, Below W.heap.size W w → Calls Tryd.prog 12 #[.string b0, .string b1] w fun e w' => e = .returned (.string (keyN b0 b1)) ∧ Below w.heap.size w w') := Lib.hid (fun w hw => fKey_any b0 b1 (by omega) (by omega) W.heap.size w hw.size (hv.on hw))
  have HR := Lib.hid (fun w => run_eqA a0 a1 b0 b1 w)
  rw [hE] at hk HR
  have HKE := Lib.hid hk
  generalize keyN a0 a1 = K1 at *
  generalize keyN b0 b1 = K2 at *
  have HZ := Lib.hid (And.intro bk1 (And.intro bk2 d2))
  clear hA hB h1 h2 d1 d2 bk1' bk1 bk2 hv hk hE
  go_enter Tryd.func7, Tryd.ntmps7
  go_wp2_with fail
  obtain ⟨c1, c2, d2⟩ := HZ.out
  clear HZ x0 x1 y0 y1 wA wB g1 g2
  generalize hw2 : ((W.alloc (.cells #[.string a0, .string a1] 44)).alloc (.cells #[.string b0, .string b1] 44)) = w2 at *
  clear hw2
  refine wp_region_any (by kernel_rfl) ?_
  change wpAny _ _ _ _ _ _ _ (World.drew _)
  have hS : (fun w' : World => StBlk2 w' W.heap.size a0 a1 ∧ StBlk2 w' (W.heap.size + 1) b0 b1 ∧ Below W.heap.size W w') w2.drew := ⟨c1, c2, d2.drew⟩
  refine wpAny_of_held (S := fun w' => StBlk2 w' W.heap.size a0 a1 ∧ StBlk2 w' (W.heap.size + 1) b0 b1 ∧ Below W.heap.size W w') _ _ _ _ ?_
  clear c1 c2 d2
  refine wpAnyH_takeE (i := 0) (some 24) (v := ?_) rfl rfl (by as_aux_lemma => kernel_rfl) (by as_aux_lemma => kernel_rfl) (by as_aux_lemma => kernel_rfl) (fun _ _ _ h => h) (Or.inl ⟨by kernel_rfl, ?_⟩) hS ?_
  rotate_left
  · intro w hSw; have x0 := hSw.1.c0; have x1 := hSw.1.c1; have y0 := hSw.2.1.c0; have y1 := hSw.2.1.c1; go_simp
    first | done | with_reducible rfl
  refine wpAnyH_takeE (i := 1) (some 25) (v := ?_) rfl rfl (by as_aux_lemma => kernel_rfl) (by as_aux_lemma => kernel_rfl) (by as_aux_lemma => kernel_rfl) (fun _ _ _ h => h) (Or.inl ⟨by kernel_rfl, ?_⟩) hS ?_
  rotate_left
  · intro w hSw; have x0 := hSw.1.c0; have x1 := hSw.1.c1; have y0 := hSw.2.1.c0; have y1 := hSw.2.1.c1; go_simp
    first | done | with_reducible rfl
  refine wpAnyH_takeE (i := 2) (some 26) (v := ?_) rfl rfl (by as_aux_lemma => kernel_rfl) (by as_aux_lemma => kernel_rfl) (by as_aux_lemma => kernel_rfl) (fun _ _ _ h => h) (Or.inl ⟨by kernel_rfl, ?_⟩) hS ?_
  rotate_left
  · intro w hSw; have x0 := hSw.1.c0; have x1 := hSw.1.c1; have y0 := hSw.2.1.c0; have y1 := hSw.2.1.c1; go_simp
    first | done | with_reducible rfl
  refine wpAnyH_takeE (i := 3) (some 27) (v := ?_) rfl rfl (by as_aux_lemma => kernel_rfl) (by as_aux_lemma => kernel_rfl) (by as_aux_lemma => kernel_rfl) (fun _ _ _ h => h) (Or.inl ⟨by kernel_rfl, ?_⟩) hS ?_
  rotate_left
  · intro w hSw; have x0 := hSw.1.c0; have x1 := hSw.1.c1; have y0 := hSw.2.1.c0; have y1 := hSw.2.1.c1; go_simp
    first | done | with_reducible rfl
  refine wpAnyH_takeE (i := 5) (some 29) (v := ?_) rfl rfl (by as_aux_lemma => kernel_rfl) (by as_aux_lemma => kernel_rfl) (by as_aux_lemma => kernel_rfl) (fun _ _ _ h => h) (Or.inl ⟨by kernel_rfl, ?_⟩) hS ?_
  rotate_left
  · intro w hSw; have x0 := hSw.1.c0; have x1 := hSw.1.c1; have y0 := hSw.2.1.c0; have y1 := hSw.2.1.c1; go_simp
    first | done | with_reducible rfl
  refine wpAnyH_takeE (i := 6) (some 30) (v := ?_) rfl rfl (by as_aux_lemma => kernel_rfl) (by as_aux_lemma => kernel_rfl) (by as_aux_lemma => kernel_rfl) (fun _ _ _ h => h) (Or.inl ⟨by kernel_rfl, ?_⟩) hS ?_
  rotate_left
  · intro w hSw; have x0 := hSw.1.c0; have x1 := hSw.1.c1; have y0 := hSw.2.1.c0; have y1 := hSw.2.1.c1; go_simp
    first | done | with_reducible rfl
  refine wpAnyH_takeE (i := 7) (some 31) (v := ?_) rfl rfl (by as_aux_lemma => kernel_rfl) (by as_aux_lemma => kernel_rfl) (by as_aux_lemma => kernel_rfl) (fun _ _ _ h => h) (Or.inl ⟨by kernel_rfl, ?_⟩) hS ?_
  rotate_left
  · intro w hSw; have x0 := hSw.1.c0; have x1 := hSw.1.c1; have y0 := hSw.2.1.c0; have y1 := hSw.2.1.c1; go_simp
    first | done | with_reducible rfl
  refine wpAnyH_takeE (i := 8) (some 32) (v := ?_) rfl rfl (by as_aux_lemma => kernel_rfl) (by as_aux_lemma => kernel_rfl) (by as_aux_lemma => kernel_rfl) (fun _ _ _ h => h) (Or.inl ⟨by kernel_rfl, ?_⟩) hS ?_
  rotate_left
  · intro w hSw; have x0 := hSw.1.c0; have x1 := hSw.1.c1; have y0 := hSw.2.1.c0; have y1 := hSw.2.1.c1; go_simp
    first | done | with_reducible rfl
  refine wpAnyH_takeE (i := 11) (some 35) (v := ?_) rfl rfl (by as_aux_lemma => kernel_rfl) (by as_aux_lemma => kernel_rfl) (by as_aux_lemma => kernel_rfl) (fun _ _ _ h => h) (Or.inl ⟨by kernel_rfl, ?_⟩) hS ?_
  rotate_left
  · intro w hSw; have x0 := hSw.1.c0; have x1 := hSw.1.c1; have y0 := hSw.2.1.c0; have y1 := hSw.2.1.c1; go_simp
    first | done | with_reducible rfl
  refine wpAnyH_takeE (i := 12) (some 36) (v := ?_) rfl rfl (by as_aux_lemma => kernel_rfl) (by as_aux_lemma => kernel_rfl) (by as_aux_lemma => kernel_rfl) (fun _ _ _ h => h) (Or.inl ⟨by kernel_rfl, ?_⟩) hS ?_
  rotate_left
  · intro w hSw; have x0 := hSw.1.c0; have x1 := hSw.1.c1; have y0 := hSw.2.1.c0; have y1 := hSw.2.1.c1; go_simp
    first | done | with_reducible rfl
  have hR := HR.out
  refine wpAnyH_takeE (i := 13) (some 37) (v := ?_) rfl rfl (by as_aux_lemma => kernel_rfl) (by as_aux_lemma => kernel_rfl) (by as_aux_lemma => kernel_rfl) (fun _ _ _ h => h) (Or.inl ⟨by kernel_rfl, ?_⟩) hS ?_
  rotate_left
  · intro w hSw; skip; go_simp
    first | done | with_reducible rfl
  clear hR
  refine wpAnyH_ready (rs := [4]) (by as_aux_lemma => kernel_rfl) (by simp) ?_
  refine AllReadyH.cons rfl (fun K hK => ?_) AllReadyH.nil
  go_simp
  go_wp2_with (go_at_call 12; refine (HK1.out _ hS.2.2).mono ?_; rintro e u1 ⟨rfl, q1⟩)
  refine hK.out _ _ ?_ (fun hS => ?_)
  · exact ⟨hS.1.on q1, hS.2.1.on q1, hS.2.2.trans (q1.mono hS.2.2.size)⟩
  clear hK K
  clear q1
  refine wpAnyH_ready (rs := [9]) (by as_aux_lemma => kernel_rfl) (by simp) ?_
  refine AllReadyH.cons rfl (fun K hK => ?_) AllReadyH.nil
  go_simp
  go_wp2_with (go_at_call 12; refine (HK2.out _ hS.2.2).mono ?_; rintro e u2 ⟨rfl, q2⟩)
  refine hK.out _ _ ?_ (fun hS => ?_)
  · exact ⟨hS.1.on q2, hS.2.1.on q2, hS.2.2.trans (q2.mono hS.2.2.size)⟩
  clear hK K
  clear q2
  have hKE := HKE.out
  refine wpAnyH_takeE (i := 10) (some 34) (v := ?_) rfl rfl (by as_aux_lemma => kernel_rfl) (by as_aux_lemma => kernel_rfl) (by as_aux_lemma => kernel_rfl) (fun _ _ _ h => h) (Or.inl ⟨by kernel_rfl, ?_⟩) hS ?_
  rotate_left
  · intro w hSw; skip; go_simp
    first | done | with_reducible rfl
  clear hKE
  refine wpAnyH_takeE (i := 14) (some 38) (v := ?_) rfl rfl (by as_aux_lemma => kernel_rfl) (by as_aux_lemma => kernel_rfl) (by as_aux_lemma => kernel_rfl) (fun _ _ _ h => h) (Or.inl ⟨by kernel_rfl, ?_⟩) hS ?_
  rotate_left
  · intro w hSw; skip; go_simp
    first | done | with_reducible rfl
  refine wpAnyH_takeE (i := 15) (some 39) (v := ?_) rfl rfl (by as_aux_lemma => kernel_rfl) (by as_aux_lemma => kernel_rfl) (by as_aux_lemma => kernel_rfl) (fun _ _ _ h => h) (Or.inl ⟨by kernel_rfl, ?_⟩) hS ?_
  rotate_left
  · intro w hSw; skip; go_simp
    first | done | with_reducible rfl
  refine wpAnyH_ready (rs := [16]) (by as_aux_lemma => kernel_rfl) (by simp) ?_
  refine AllReadyH.cons rfl (fun K hK => ?_) AllReadyH.nil
  go_simp
  go_wp2_with (go_at_call 9; refine (HA.out _ hS.2.2).mono ?_; rintro e u3 ⟨rfl, q3⟩)
  refine hK.out _ _ ?_ (fun hS => ?_)
  · exact ⟨hS.1.on q3, hS.2.1.on q3, hS.2.2.trans (q3.mono hS.2.2.size)⟩
  clear hK K
  clear q3
  refine wpAnyH_takeE (i := 17) (some 41) (v := ?_) rfl rfl (by as_aux_lemma => kernel_rfl) (by as_aux_lemma => kernel_rfl) (by as_aux_lemma => kernel_rfl) (fun _ _ _ h => h) (Or.inl ⟨by kernel_rfl, ?_⟩) hS ?_
  rotate_left
  · intro w hSw; skip; go_simp
    first | done | with_reducible rfl
  refine wpAnyH_takeE (i := 18) (some 4) (v := ?_) rfl rfl (by as_aux_lemma => kernel_rfl) (by as_aux_lemma => kernel_rfl) (by as_aux_lemma => kernel_rfl) (fun _ _ _ h => h) (Or.inl ⟨by kernel_rfl, ?_⟩) hS ?_
  rotate_left
  · intro w hSw; skip; go_simp
    first | done | with_reducible rfl
  have h5 := Lib.hid hS.2.2
  clear hS
  refine wpAnyH_done (by kernel_rfl) ?_ _
  go_simp
  go_wp2
  go_ret
  exact ⟨by simp, h5.out⟩

theorem keys_walk (a0 a1 b0 b1 : ByteArray) (hs : a0.size + a1.size ≤ 281474976710656) (ht : b0.size + b1.size ≤ 281474976710656) (W : World) (hv : VarsOk W.heap.size W) :
    Calls Tryd.prog 7 #[.agg #[.string a0, .string a1], .agg #[.string b0, .string b1]] W fun e w' => e = .returned (.bool true) ∧ Below W.heap.size W w' := by
  by_cases h1 : 20000 < a0.size + a1.size
  · exact keys_a a0 a1 b0 b1 hs ht h1 W hv
  · by_cases h2 : 20000 < b0.size + b1.size
    · exact keys_b a0 a1 b0 b1 ht h1 h2 W hv
    · exact keys_c a0 a1 b0 b1 h1 h2 _ rfl W hv

end Go.Proofs.YtcdlalbmafipdaaDoor
