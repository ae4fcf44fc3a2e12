/-
  What Key and Entry of the reference tell; Entry of both as one answer.
-/
import Derived.Test.YtieepbjngolaoaaDoorN2
import Derived.Test.YtieepbjngolaoaaDoorRef2
import Derived.Test.YtieepbjngolaoaaDoorSrc
namespace Go.Proofs.YtieepbjngolaoaaDoor
open Go.RowKit

set_option maxRecDepth 100000 in
set_option maxHeartbeats 4000000 in
theorem zKey_any (r g : ByteArray) (hr : r.size ≤ 1048576) (hg : g.size ≤ 1048576) (W : World) :
    Calls Tryd.prog 13 #[.string r, .string g] W fun e w' => e = .returned (.string (keyN r g)) ∧ Below W.heap.size W w' := by
  have HT1 := Lib.hid (refText_any r (by omega) W)
  have HV := Lib.hid (And.intro hr hg)
  clear hr hg
  go_enter Tryd.func13, Tryd.ntmps13
  go_wp2_with (go_at_call 30; refine HT1.out.mono ?_; rintro e w1 ⟨a1, k1, c1, rfl, ho1, hq1, hb1⟩; refine Hid.out ?_)
  refine Lib.hid ?_
  have HT2 := Lib.hid (refText_any g (by have := HV.out; omega) w1)
  have HO1 := Lib.hid (And.intro ho1 hb1)
  clear ho1 hb1 hq1 HT1
  go_wp2_with (go_at_call 30; refine HT2.out.mono ?_; rintro e w2 ⟨a2, k2, c2, rfl, ho2, hq2, hb2⟩; refine Hid.out ?_)
  refine Lib.hid ?_
  have hbb : Below w2.heap.size w2 (w2.alloc (.cells #[.slice (some a1) k1 c1, .slice (some a2) k2 c2] 48)) := (Below.refl _ _).alloc (Nat.le_refl _) _
  have n0 := newE w2 (.cells #[.slice (some a1) k1 c1, .slice (some a2) k2 c2] 48)
  have e1 := (HO1.out.1.below hb2 (Nat.le_refl _)).below hbb (Nat.le_refl _)
  have e2 := ho2.below hbb (Nat.le_refl _)
  have hp : PartsAt (w2.alloc (.cells #[.slice (some a1) k1 c1, .slice (some a2) k2 c2] 48)) (some ⟨w2.heap.size, 0, none⟩) (partsN r g) := fun _ => ⟨_, 0, rfl, fun i hi => by
    match i, hi with
    | 0, _ => exact ⟨_, cellE n0, e1⟩
    | 1, _ => exact ⟨_, cellE n0, e2⟩⟩
  have hlen : (partsN r g).flatten.length ≤ 140737488355000 := by have := partsN_short r g HV.out.1 HV.out.2; omega
  have hcat : ¬ 9223372036854775807 < 1 + (putList (partsN r g)).length := by have := partsN_short r g HV.out.1 HV.out.2; rw [putList_len]; omega
  have hL := refList_any (some ⟨w2.heap.size, 0, none⟩) 2 _ _ hp (by simp [partsN]) hlen
  rw [show (partsN r g).length = 2 from rfl] at hL
  have HL := Lib.hid hL
  have HN := Lib.hid ((HO1.out.2.trans (hb2.mono HO1.out.2.size)).trans (hbb.mono (HO1.out.2.trans (hb2.mono HO1.out.2.size)).size))
  clear hp e1 e2 n0 hbb hlen ho2 hb2 hq2 HT2 HO1 hL
  go_wp2_with (go_at_call 29; refine HL.out.mono ?_; rintro e w3 ⟨a3, k3, c3, rfl, ho3, hb3⟩; refine Hid.out ?_)
  refine Lib.hid ?_
  have hcv := src_string ho3
  have HQ := Lib.hid (HN.out.trans (hb3.mono HN.out.size))
  clear HL HN hb3 ho3
  go_wp2
  go_ret
  exact ⟨rfl, HQ.out⟩

/-- What Entry tells: the entry, or none. -/
def ansN (s : Snd) (o keep : Int) : Ent := if errN s keep = 0 then entN s o keep else zeroE
theorem ansN_no {s : Snd} {o keep : Int} (h : errN s keep ≠ 0) : ansN s o keep = zeroE := if_neg h
theorem ansN_ok {s : Snd} {o keep : Int} (h : errN s keep = 0) : ansN s o keep = entN s o keep := if_pos h
theorem errN_arg1 {s : Snd} {keep : Int} (h : s.r.size = 0) : errN s keep = 2 := if_pos (Or.inl h)
theorem errN_arg2 {s : Snd} {keep : Int} (h : s.k.size = 0) : errN s keep = 2 := if_pos (Or.inr h)
theorem errN_check {s : Snd} {keep : Int} (h1 : s.r.size ≠ 0) (h2 : s.k.size ≠ 0) (o : Int) : errN s keep = checkEn (entN s o keep) := if_neg (fun h => h.elim h1 h2)
theorem keyN_size (r g : ByteArray) : (keyN r g).size ≠ 0 := by
  have : (keyN r g).size = 1 + (putList (partsN r g)).length := by
    have h : (keyN r g).data.toList.length = (keyN r g).size := rfl
    rw [← h]; simp [keyN]; omega
  omega
/-- In the reference's words. -/
theorem errN_words {s : Snd} {keep : Int} (h1 : s.r.size ≠ 0) (h2 : s.k.size ≠ 0) (ht : -9223372036854775808 ≤ s.t ∧ s.t ≤ 9223372036854775807) (hk : -9223372036854775808 ≤ keep ∧ keep ≤ 9223372036854775807) :
    errN s keep = if 1024 < (keyN s.r s.k).size ∨ 8192 < s.v.size then 5 else if s.t < 0 ∨ keep < 0 ∨ 1099511627776 < s.t ∨ 1099511627776 - s.t < keep then 13 else 0 := by
  rw [errN_check h1 h2 0]
  have h3 := keyN_size s.r s.k
  simp only [checkEn, entN, IntKind.wrap_i64]
  generalize (keyN s.r s.k).size = a at *
  generalize s.v.size = b at *
  generalize s.t = t at *
  obtain ⟨ht1, ht2⟩ := ht
  obtain ⟨hk1, hk2⟩ := hk
  split <;> split <;> (try split) <;> (try split) <;> omega

theorem fEntry_any (s : Snd) (o keep : Int) (B : Nat) (w : World) (hB : B ≤ w.heap.size) (hv : VarsOk B w) (hr : s.r.size ≤ 1048576) (hg : s.k.size ≤ 1048576) :
    Calls Tryd.prog 10 #[.agg #[.string s.r, .string s.k, .string s.v, .int .i64 s.t], .int .u16 o, .int .i64 keep] w fun e w' => e = .returned (.tuple #[.agg #[.string (ansN s o keep).k, .int .i64 (ansN s o keep).t, .int .u16 (ansN s o keep).o, .string (ansN s o keep).v, .int .i64 (ansN s o keep).u], .int .i64 (errN s keep)]) ∧ Below w.heap.size w w' := by
  by_cases h1 : s.r.size = 0
  · have he := errN_arg1 (keep := keep) h1
    rw [ansN_no (by rw [he]; decide), he]
    exact fEntry_arg1 s o keep w h1
  · by_cases h2 : s.k.size = 0
    · have he := errN_arg2 (keep := keep) h2
      rw [ansN_no (by rw [he]; decide), he]
      exact fEntry_arg2 s o keep w h1 h2
    · have he := errN_check (keep := keep) h1 h2 o
      by_cases h3 : checkEn (entN s o keep) = 0
      · rw [ansN_ok (he.trans h3), he, h3]
        exact fEntry_ok s o keep B w hB hv h1 h2 hr hg h3
      · rw [ansN_no (by rw [he]; exact h3), he]
        exact fEntry_err s o keep B w hB hv h1 h2 hr hg h3

set_option maxRecDepth 100000 in
set_option maxHeartbeats 4000000 in
theorem zEntry_a (s : Snd) (o keep : Int) (w : World) (hr : s.r.size ≤ 1048576) (hg : s.k.size ≤ 1048576) (h1 : s.r.size = 0) :
    Calls Tryd.prog 11 #[.agg #[.string s.r, .string s.k, .string s.v, .int .i64 s.t], .int .u16 o, .int .i64 keep] w fun e w' => e = .returned (.tuple #[.agg #[.string ⟨#[]⟩, .int .i64 0, .int .u16 0, .string ⟨#[]⟩, .int .i64 0], .int .i64 2]) ∧ Below w.heap.size w w' := by
  have d1 := (Below.refl w.heap.size w).alloc (Nat.le_refl _) (.cells #[.string s.r, .string s.k, .string s.v, .int .i64 s.t] 33)
  have b1 := (SnBlk.new w s).on ((Below.refl _ _).alloc (Nat.le_refl _) (.cells #[.string ⟨#[]⟩, .int .i64 0, .int .u16 0, .string ⟨#[]⟩, .int .i64 0] 24))
  have d2 := d1.alloc (by simp) (.cells #[.string ⟨#[]⟩, .int .i64 0, .int .u16 0, .string ⟨#[]⟩, .int .i64 0] 24)
  have b2 := EBlk.new (w.alloc (.cells #[.string s.r, .string s.k, .string s.v, .int .i64 s.t] 33)) zeroE
  rw [World.size_alloc] at b2
  dsimp only [zeroE] at b2
  have HK : Hid (∀ u, Calls Tryd.prog 13 #[.string s.r, .string s.k] u fun e w' => e = .returned (.string (keyN s.r s.k)) ∧ Below u.heap.size u w') := Lib.hid (fun u => zKey_any s.r s.k hr hg u)
  have g1 : (s.r.toList == ([] : List UInt8)) = true := by rw [toListN, decide_eq_true h1]
  clear h1
  generalize keyN s.r s.k = K1 at *
  clear hr hg d1
  have x0 := b1.c0; have x1 := b1.c1
  have HZ := Lib.hid (And.intro b1 (And.intro b2 d2))
  clear b1 b2 d2
  obtain ⟨rs, ks, vs, ts⟩ := s
  dsimp only at *
  go_enter Tryd.func11, Tryd.ntmps11
  go_wp2_with (go_at_call 13; refine (HK.out _).mono ?_; rintro e u ⟨rfl, q⟩; refine Hid.out ?_)
  refine Lib.hid ?_
  obtain ⟨b1, b2, d2⟩ := HZ.out
  have s6 := b1.on q
  have r6 := b2.on q
  have D6 := d2.trans (q.mono d2.size)
  clear x0 x1 HZ HK b1 b2 d2 q
  have x0 := s6.c0; have x1 := s6.c1; have x2 := s6.c2; have x3 := s6.c3
  dsimp only at x0 x1 x2 x3
  have t0 := r6.c0; have t1 := r6.c1; have t2 := r6.c2; have t3 := r6.c3; have t4 := r6.c4; have y0 := r6.f 0; have y1 := r6.f 1; have y2 := r6.f 2; have y3 := r6.f 3; have y4 := r6.f 4
  dsimp only at t0 t1 t2 t3 t4
  have HF := Lib.hid (r6.store zeroE)
  have HQ := Lib.hid (stE_below D6 (show w.heap.size ≤ w.heap.size + 1 by omega) zeroE)
  try dsimp only [zeroE] at HF HQ
  clear s6 r6 D6
  go_wp2
  refine bodyPost_ret (v := .tuple #[.agg #[.string ⟨#[]⟩, .int .i64 0, .int .u16 0, .string ⟨#[]⟩, .int .i64 0], .int .i64 2]) (by have b5 := HF.out; have z0 := b5.c0; have z1 := b5.c1; have z2 := b5.c2; have z3 := b5.c3; have z4 := b5.c4; try unfold stE at z0 z1 z2 z3 z4; simp [results, Tryd.results11, go_sem, z0, z1, z2, z3, z4]) rfl ?_
  exact ⟨rfl, HQ.out⟩
set_option maxRecDepth 100000 in
set_option maxHeartbeats 4000000 in
theorem zEntry_b (s : Snd) (o keep : Int) (w : World) (hr : s.r.size ≤ 1048576) (hg : s.k.size ≤ 1048576) (h1 : s.r.size ≠ 0) (h2 : s.k.size = 0) :
    Calls Tryd.prog 11 #[.agg #[.string s.r, .string s.k, .string s.v, .int .i64 s.t], .int .u16 o, .int .i64 keep] w fun e w' => e = .returned (.tuple #[.agg #[.string ⟨#[]⟩, .int .i64 0, .int .u16 0, .string ⟨#[]⟩, .int .i64 0], .int .i64 2]) ∧ Below w.heap.size w w' := by
  have d1 := (Below.refl w.heap.size w).alloc (Nat.le_refl _) (.cells #[.string s.r, .string s.k, .string s.v, .int .i64 s.t] 33)
  have b1 := (SnBlk.new w s).on ((Below.refl _ _).alloc (Nat.le_refl _) (.cells #[.string ⟨#[]⟩, .int .i64 0, .int .u16 0, .string ⟨#[]⟩, .int .i64 0] 24))
  have d2 := d1.alloc (by simp) (.cells #[.string ⟨#[]⟩, .int .i64 0, .int .u16 0, .string ⟨#[]⟩, .int .i64 0] 24)
  have b2 := EBlk.new (w.alloc (.cells #[.string s.r, .string s.k, .string s.v, .int .i64 s.t] 33)) zeroE
  rw [World.size_alloc] at b2
  dsimp only [zeroE] at b2
  have HK : Hid (∀ u, Calls Tryd.prog 13 #[.string s.r, .string s.k] u fun e w' => e = .returned (.string (keyN s.r s.k)) ∧ Below u.heap.size u w') := Lib.hid (fun u => zKey_any s.r s.k hr hg u)
  have g1 : (s.r.toList == ([] : List UInt8)) = false := by rw [toListN, decide_eq_false h1]
  have g2 : (s.k.toList == ([] : List UInt8)) = true := by rw [toListN, decide_eq_true h2]
  clear h1 h2
  generalize keyN s.r s.k = K1 at *
  clear hr hg d1
  have x0 := b1.c0; have x1 := b1.c1
  have HZ := Lib.hid (And.intro b1 (And.intro b2 d2))
  clear b1 b2 d2
  obtain ⟨rs, ks, vs, ts⟩ := s
  dsimp only at *
  go_enter Tryd.func11, Tryd.ntmps11
  go_wp2_with (go_at_call 13; refine (HK.out _).mono ?_; rintro e u ⟨rfl, q⟩; refine Hid.out ?_)
  refine Lib.hid ?_
  obtain ⟨b1, b2, d2⟩ := HZ.out
  have s6 := b1.on q
  have r6 := b2.on q
  have D6 := d2.trans (q.mono d2.size)
  clear x0 x1 HZ HK b1 b2 d2 q
  have x0 := s6.c0; have x1 := s6.c1; have x2 := s6.c2; have x3 := s6.c3
  dsimp only at x0 x1 x2 x3
  have t0 := r6.c0; have t1 := r6.c1; have t2 := r6.c2; have t3 := r6.c3; have t4 := r6.c4; have y0 := r6.f 0; have y1 := r6.f 1; have y2 := r6.f 2; have y3 := r6.f 3; have y4 := r6.f 4
  dsimp only at t0 t1 t2 t3 t4
  have HF := Lib.hid (r6.store zeroE)
  have HQ := Lib.hid (stE_below D6 (show w.heap.size ≤ w.heap.size + 1 by omega) zeroE)
  try dsimp only [zeroE] at HF HQ
  clear s6 r6 D6
  go_wp2
  refine bodyPost_ret (v := .tuple #[.agg #[.string ⟨#[]⟩, .int .i64 0, .int .u16 0, .string ⟨#[]⟩, .int .i64 0], .int .i64 2]) (by have b5 := HF.out; have z0 := b5.c0; have z1 := b5.c1; have z2 := b5.c2; have z3 := b5.c3; have z4 := b5.c4; try unfold stE at z0 z1 z2 z3 z4; simp [results, Tryd.results11, go_sem, z0, z1, z2, z3, z4]) rfl ?_
  exact ⟨rfl, HQ.out⟩
set_option maxRecDepth 100000 in
set_option maxHeartbeats 4000000 in
theorem zEntry_c (s : Snd) (o keep : Int) (w : World) (hr : s.r.size ≤ 1048576) (hg : s.k.size ≤ 1048576) (h1 : s.r.size ≠ 0) (h2 : s.k.size ≠ 0) (h3 : 1024 < (keyN s.r s.k).size) :
    Calls Tryd.prog 11 #[.agg #[.string s.r, .string s.k, .string s.v, .int .i64 s.t], .int .u16 o, .int .i64 keep] w fun e w' => e = .returned (.tuple #[.agg #[.string ⟨#[]⟩, .int .i64 0, .int .u16 0, .string ⟨#[]⟩, .int .i64 0], .int .i64 5]) ∧ Below w.heap.size w w' := by
  have d1 := (Below.refl w.heap.size w).alloc (Nat.le_refl _) (.cells #[.string s.r, .string s.k, .string s.v, .int .i64 s.t] 33)
  have b1 := (SnBlk.new w s).on ((Below.refl _ _).alloc (Nat.le_refl _) (.cells #[.string ⟨#[]⟩, .int .i64 0, .int .u16 0, .string ⟨#[]⟩, .int .i64 0] 24))
  have d2 := d1.alloc (by simp) (.cells #[.string ⟨#[]⟩, .int .i64 0, .int .u16 0, .string ⟨#[]⟩, .int .i64 0] 24)
  have b2 := EBlk.new (w.alloc (.cells #[.string s.r, .string s.k, .string s.v, .int .i64 s.t] 33)) zeroE
  rw [World.size_alloc] at b2
  dsimp only [zeroE] at b2
  have HK : Hid (∀ u, Calls Tryd.prog 13 #[.string s.r, .string s.k] u fun e w' => e = .returned (.string (keyN s.r s.k)) ∧ Below u.heap.size u w') := Lib.hid (fun u => zKey_any s.r s.k hr hg u)
  have g1 : (s.r.toList == ([] : List UInt8)) = false := by rw [toListN, decide_eq_false h1]
  have g2 : (s.k.toList == ([] : List UInt8)) = false := by rw [toListN, decide_eq_false h2]
  clear h1 h2
  have g3 : (1024 : Int) < ((keyN s.r s.k).size : Int) := by omega
  clear h3
  generalize keyN s.r s.k = K1 at *
  clear hr hg d1
  have x0 := b1.c0; have x1 := b1.c1
  have HZ := Lib.hid (And.intro b1 (And.intro b2 d2))
  clear b1 b2 d2
  obtain ⟨rs, ks, vs, ts⟩ := s
  dsimp only at *
  go_enter Tryd.func11, Tryd.ntmps11
  go_wp2_with (go_at_call 13; refine (HK.out _).mono ?_; rintro e u ⟨rfl, q⟩; refine Hid.out ?_)
  refine Lib.hid ?_
  obtain ⟨b1, b2, d2⟩ := HZ.out
  have s6 := b1.on q
  have r6 := b2.on q
  have D6 := d2.trans (q.mono d2.size)
  clear x0 x1 HZ HK b1 b2 d2 q
  have x0 := s6.c0; have x1 := s6.c1; have x2 := s6.c2; have x3 := s6.c3
  dsimp only at x0 x1 x2 x3
  have t0 := r6.c0; have t1 := r6.c1; have t2 := r6.c2; have t3 := r6.c3; have t4 := r6.c4; have y0 := r6.f 0; have y1 := r6.f 1; have y2 := r6.f 2; have y3 := r6.f 3; have y4 := r6.f 4
  dsimp only at t0 t1 t2 t3 t4
  have HF := Lib.hid (r6.store zeroE)
  have HQ := Lib.hid (stE_below D6 (show w.heap.size ≤ w.heap.size + 1 by omega) zeroE)
  try dsimp only [zeroE] at HF HQ
  clear s6 r6 D6
  go_wp2
  refine bodyPost_ret (v := .tuple #[.agg #[.string ⟨#[]⟩, .int .i64 0, .int .u16 0, .string ⟨#[]⟩, .int .i64 0], .int .i64 5]) (by have b5 := HF.out; have z0 := b5.c0; have z1 := b5.c1; have z2 := b5.c2; have z3 := b5.c3; have z4 := b5.c4; try unfold stE at z0 z1 z2 z3 z4; simp [results, Tryd.results11, go_sem, z0, z1, z2, z3, z4]) rfl ?_
  exact ⟨rfl, HQ.out⟩
set_option maxRecDepth 100000 in
set_option maxHeartbeats 4000000 in
theorem zEntry_d (s : Snd) (o keep : Int) (w : World) (hr : s.r.size ≤ 1048576) (hg : s.k.size ≤ 1048576) (h1 : s.r.size ≠ 0) (h2 : s.k.size ≠ 0) (h3 : ¬ 1024 < (keyN s.r s.k).size) (h4 : 8192 < s.v.size) :
    Calls Tryd.prog 11 #[.agg #[.string s.r, .string s.k, .string s.v, .int .i64 s.t], .int .u16 o, .int .i64 keep] w fun e w' => e = .returned (.tuple #[.agg #[.string ⟨#[]⟩, .int .i64 0, .int .u16 0, .string ⟨#[]⟩, .int .i64 0], .int .i64 5]) ∧ Below w.heap.size w w' := by
  have d1 := (Below.refl w.heap.size w).alloc (Nat.le_refl _) (.cells #[.string s.r, .string s.k, .string s.v, .int .i64 s.t] 33)
  have b1 := (SnBlk.new w s).on ((Below.refl _ _).alloc (Nat.le_refl _) (.cells #[.string ⟨#[]⟩, .int .i64 0, .int .u16 0, .string ⟨#[]⟩, .int .i64 0] 24))
  have d2 := d1.alloc (by simp) (.cells #[.string ⟨#[]⟩, .int .i64 0, .int .u16 0, .string ⟨#[]⟩, .int .i64 0] 24)
  have b2 := EBlk.new (w.alloc (.cells #[.string s.r, .string s.k, .string s.v, .int .i64 s.t] 33)) zeroE
  rw [World.size_alloc] at b2
  dsimp only [zeroE] at b2
  have HK : Hid (∀ u, Calls Tryd.prog 13 #[.string s.r, .string s.k] u fun e w' => e = .returned (.string (keyN s.r s.k)) ∧ Below u.heap.size u w') := Lib.hid (fun u => zKey_any s.r s.k hr hg u)
  have g1 : (s.r.toList == ([] : List UInt8)) = false := by rw [toListN, decide_eq_false h1]
  have g2 : (s.k.toList == ([] : List UInt8)) = false := by rw [toListN, decide_eq_false h2]
  clear h1 h2
  have g3 : ¬ (1024 : Int) < ((keyN s.r s.k).size : Int) := by omega
  have g4 : (8192 : Int) < (s.v.size : Int) := by omega
  clear h3 h4
  generalize keyN s.r s.k = K1 at *
  clear hr hg d1
  have x0 := b1.c0; have x1 := b1.c1
  have HZ := Lib.hid (And.intro b1 (And.intro b2 d2))
  clear b1 b2 d2
  obtain ⟨rs, ks, vs, ts⟩ := s
  dsimp only at *
  go_enter Tryd.func11, Tryd.ntmps11
  go_wp2_with (go_at_call 13; refine (HK.out _).mono ?_; rintro e u ⟨rfl, q⟩; refine Hid.out ?_)
  refine Lib.hid ?_
  obtain ⟨b1, b2, d2⟩ := HZ.out
  have s6 := b1.on q
  have r6 := b2.on q
  have D6 := d2.trans (q.mono d2.size)
  clear x0 x1 HZ HK b1 b2 d2 q
  have x0 := s6.c0; have x1 := s6.c1; have x2 := s6.c2; have x3 := s6.c3
  dsimp only at x0 x1 x2 x3
  have t0 := r6.c0; have t1 := r6.c1; have t2 := r6.c2; have t3 := r6.c3; have t4 := r6.c4; have y0 := r6.f 0; have y1 := r6.f 1; have y2 := r6.f 2; have y3 := r6.f 3; have y4 := r6.f 4
  dsimp only at t0 t1 t2 t3 t4
  have HF := Lib.hid (r6.store zeroE)
  have HQ := Lib.hid (stE_below D6 (show w.heap.size ≤ w.heap.size + 1 by omega) zeroE)
  try dsimp only [zeroE] at HF HQ
  clear s6 r6 D6
  go_wp2
  refine bodyPost_ret (v := .tuple #[.agg #[.string ⟨#[]⟩, .int .i64 0, .int .u16 0, .string ⟨#[]⟩, .int .i64 0], .int .i64 5]) (by have b5 := HF.out; have z0 := b5.c0; have z1 := b5.c1; have z2 := b5.c2; have z3 := b5.c3; have z4 := b5.c4; try unfold stE at z0 z1 z2 z3 z4; simp [results, Tryd.results11, go_sem, z0, z1, z2, z3, z4]) rfl ?_
  exact ⟨rfl, HQ.out⟩
set_option maxRecDepth 100000 in
set_option maxHeartbeats 4000000 in
theorem zEntry_e (s : Snd) (o keep : Int) (w : World) (hr : s.r.size ≤ 1048576) (hg : s.k.size ≤ 1048576) (h1 : s.r.size ≠ 0) (h2 : s.k.size ≠ 0) (h3 : ¬ 1024 < (keyN s.r s.k).size) (h4 : ¬ 8192 < s.v.size) (h5 : s.t < 0) :
    Calls Tryd.prog 11 #[.agg #[.string s.r, .string s.k, .string s.v, .int .i64 s.t], .int .u16 o, .int .i64 keep] w fun e w' => e = .returned (.tuple #[.agg #[.string ⟨#[]⟩, .int .i64 0, .int .u16 0, .string ⟨#[]⟩, .int .i64 0], .int .i64 13]) ∧ Below w.heap.size w w' := by
  have d1 := (Below.refl w.heap.size w).alloc (Nat.le_refl _) (.cells #[.string s.r, .string s.k, .string s.v, .int .i64 s.t] 33)
  have b1 := (SnBlk.new w s).on ((Below.refl _ _).alloc (Nat.le_refl _) (.cells #[.string ⟨#[]⟩, .int .i64 0, .int .u16 0, .string ⟨#[]⟩, .int .i64 0] 24))
  have d2 := d1.alloc (by simp) (.cells #[.string ⟨#[]⟩, .int .i64 0, .int .u16 0, .string ⟨#[]⟩, .int .i64 0] 24)
  have b2 := EBlk.new (w.alloc (.cells #[.string s.r, .string s.k, .string s.v, .int .i64 s.t] 33)) zeroE
  rw [World.size_alloc] at b2
  dsimp only [zeroE] at b2
  have HK : Hid (∀ u, Calls Tryd.prog 13 #[.string s.r, .string s.k] u fun e w' => e = .returned (.string (keyN s.r s.k)) ∧ Below u.heap.size u w') := Lib.hid (fun u => zKey_any s.r s.k hr hg u)
  have g1 : (s.r.toList == ([] : List UInt8)) = false := by rw [toListN, decide_eq_false h1]
  have g2 : (s.k.toList == ([] : List UInt8)) = false := by rw [toListN, decide_eq_false h2]
  clear h1 h2
  have g3 : ¬ (1024 : Int) < ((keyN s.r s.k).size : Int) := by omega
  have g4 : ¬ (8192 : Int) < (s.v.size : Int) := by omega
  clear h3 h4
  generalize keyN s.r s.k = K1 at *
  clear hr hg d1
  have x0 := b1.c0; have x1 := b1.c1
  have HZ := Lib.hid (And.intro b1 (And.intro b2 d2))
  clear b1 b2 d2
  obtain ⟨rs, ks, vs, ts⟩ := s
  dsimp only at *
  go_enter Tryd.func11, Tryd.ntmps11
  go_wp2_with (go_at_call 13; refine (HK.out _).mono ?_; rintro e u ⟨rfl, q⟩; refine Hid.out ?_)
  refine Lib.hid ?_
  obtain ⟨b1, b2, d2⟩ := HZ.out
  have s6 := b1.on q
  have r6 := b2.on q
  have D6 := d2.trans (q.mono d2.size)
  clear x0 x1 HZ HK b1 b2 d2 q
  have x0 := s6.c0; have x1 := s6.c1; have x2 := s6.c2; have x3 := s6.c3
  dsimp only at x0 x1 x2 x3
  have t0 := r6.c0; have t1 := r6.c1; have t2 := r6.c2; have t3 := r6.c3; have t4 := r6.c4; have y0 := r6.f 0; have y1 := r6.f 1; have y2 := r6.f 2; have y3 := r6.f 3; have y4 := r6.f 4
  dsimp only at t0 t1 t2 t3 t4
  have HF := Lib.hid (r6.store zeroE)
  have HQ := Lib.hid (stE_below D6 (show w.heap.size ≤ w.heap.size + 1 by omega) zeroE)
  try dsimp only [zeroE] at HF HQ
  clear s6 r6 D6
  go_wp2
  refine bodyPost_ret (v := .tuple #[.agg #[.string ⟨#[]⟩, .int .i64 0, .int .u16 0, .string ⟨#[]⟩, .int .i64 0], .int .i64 13]) (by have b5 := HF.out; have z0 := b5.c0; have z1 := b5.c1; have z2 := b5.c2; have z3 := b5.c3; have z4 := b5.c4; try unfold stE at z0 z1 z2 z3 z4; simp [results, Tryd.results11, go_sem, z0, z1, z2, z3, z4]) rfl ?_
  exact ⟨rfl, HQ.out⟩
set_option maxRecDepth 100000 in
set_option maxHeartbeats 4000000 in
theorem zEntry_f (s : Snd) (o keep : Int) (w : World) (hr : s.r.size ≤ 1048576) (hg : s.k.size ≤ 1048576) (h1 : s.r.size ≠ 0) (h2 : s.k.size ≠ 0) (h3 : ¬ 1024 < (keyN s.r s.k).size) (h4 : ¬ 8192 < s.v.size) (h5 : ¬ s.t < 0) (h6 : keep < 0) :
    Calls Tryd.prog 11 #[.agg #[.string s.r, .string s.k, .string s.v, .int .i64 s.t], .int .u16 o, .int .i64 keep] w fun e w' => e = .returned (.tuple #[.agg #[.string ⟨#[]⟩, .int .i64 0, .int .u16 0, .string ⟨#[]⟩, .int .i64 0], .int .i64 13]) ∧ Below w.heap.size w w' := by
  have d1 := (Below.refl w.heap.size w).alloc (Nat.le_refl _) (.cells #[.string s.r, .string s.k, .string s.v, .int .i64 s.t] 33)
  have b1 := (SnBlk.new w s).on ((Below.refl _ _).alloc (Nat.le_refl _) (.cells #[.string ⟨#[]⟩, .int .i64 0, .int .u16 0, .string ⟨#[]⟩, .int .i64 0] 24))
  have d2 := d1.alloc (by simp) (.cells #[.string ⟨#[]⟩, .int .i64 0, .int .u16 0, .string ⟨#[]⟩, .int .i64 0] 24)
  have b2 := EBlk.new (w.alloc (.cells #[.string s.r, .string s.k, .string s.v, .int .i64 s.t] 33)) zeroE
  rw [World.size_alloc] at b2
  dsimp only [zeroE] at b2
  have HK : Hid (∀ u, Calls Tryd.prog 13 #[.string s.r, .string s.k] u fun e w' => e = .returned (.string (keyN s.r s.k)) ∧ Below u.heap.size u w') := Lib.hid (fun u => zKey_any s.r s.k hr hg u)
  have g1 : (s.r.toList == ([] : List UInt8)) = false := by rw [toListN, decide_eq_false h1]
  have g2 : (s.k.toList == ([] : List UInt8)) = false := by rw [toListN, decide_eq_false h2]
  clear h1 h2
  have g3 : ¬ (1024 : Int) < ((keyN s.r s.k).size : Int) := by omega
  have g4 : ¬ (8192 : Int) < (s.v.size : Int) := by omega
  clear h3 h4
  generalize keyN s.r s.k = K1 at *
  clear hr hg d1
  have x0 := b1.c0; have x1 := b1.c1
  have HZ := Lib.hid (And.intro b1 (And.intro b2 d2))
  clear b1 b2 d2
  obtain ⟨rs, ks, vs, ts⟩ := s
  dsimp only at *
  go_enter Tryd.func11, Tryd.ntmps11
  go_wp2_with (go_at_call 13; refine (HK.out _).mono ?_; rintro e u ⟨rfl, q⟩; refine Hid.out ?_)
  refine Lib.hid ?_
  obtain ⟨b1, b2, d2⟩ := HZ.out
  have s6 := b1.on q
  have r6 := b2.on q
  have D6 := d2.trans (q.mono d2.size)
  clear x0 x1 HZ HK b1 b2 d2 q
  have x0 := s6.c0; have x1 := s6.c1; have x2 := s6.c2; have x3 := s6.c3
  dsimp only at x0 x1 x2 x3
  have t0 := r6.c0; have t1 := r6.c1; have t2 := r6.c2; have t3 := r6.c3; have t4 := r6.c4; have y0 := r6.f 0; have y1 := r6.f 1; have y2 := r6.f 2; have y3 := r6.f 3; have y4 := r6.f 4
  dsimp only at t0 t1 t2 t3 t4
  have HF := Lib.hid (r6.store zeroE)
  have HQ := Lib.hid (stE_below D6 (show w.heap.size ≤ w.heap.size + 1 by omega) zeroE)
  try dsimp only [zeroE] at HF HQ
  clear s6 r6 D6
  go_wp2
  refine bodyPost_ret (v := .tuple #[.agg #[.string ⟨#[]⟩, .int .i64 0, .int .u16 0, .string ⟨#[]⟩, .int .i64 0], .int .i64 13]) (by have b5 := HF.out; have z0 := b5.c0; have z1 := b5.c1; have z2 := b5.c2; have z3 := b5.c3; have z4 := b5.c4; try unfold stE at z0 z1 z2 z3 z4; simp [results, Tryd.results11, go_sem, z0, z1, z2, z3, z4]) rfl ?_
  exact ⟨rfl, HQ.out⟩
set_option maxRecDepth 100000 in
set_option maxHeartbeats 4000000 in
theorem zEntry_g (s : Snd) (o keep : Int) (w : World) (hr : s.r.size ≤ 1048576) (hg : s.k.size ≤ 1048576) (h1 : s.r.size ≠ 0) (h2 : s.k.size ≠ 0) (h3 : ¬ 1024 < (keyN s.r s.k).size) (h4 : ¬ 8192 < s.v.size) (h5 : ¬ s.t < 0) (h6 : ¬ keep < 0) (h7 : 1099511627776 < s.t) :
    Calls Tryd.prog 11 #[.agg #[.string s.r, .string s.k, .string s.v, .int .i64 s.t], .int .u16 o, .int .i64 keep] w fun e w' => e = .returned (.tuple #[.agg #[.string ⟨#[]⟩, .int .i64 0, .int .u16 0, .string ⟨#[]⟩, .int .i64 0], .int .i64 13]) ∧ Below w.heap.size w w' := by
  have d1 := (Below.refl w.heap.size w).alloc (Nat.le_refl _) (.cells #[.string s.r, .string s.k, .string s.v, .int .i64 s.t] 33)
  have b1 := (SnBlk.new w s).on ((Below.refl _ _).alloc (Nat.le_refl _) (.cells #[.string ⟨#[]⟩, .int .i64 0, .int .u16 0, .string ⟨#[]⟩, .int .i64 0] 24))
  have d2 := d1.alloc (by simp) (.cells #[.string ⟨#[]⟩, .int .i64 0, .int .u16 0, .string ⟨#[]⟩, .int .i64 0] 24)
  have b2 := EBlk.new (w.alloc (.cells #[.string s.r, .string s.k, .string s.v, .int .i64 s.t] 33)) zeroE
  rw [World.size_alloc] at b2
  dsimp only [zeroE] at b2
  have HK : Hid (∀ u, Calls Tryd.prog 13 #[.string s.r, .string s.k] u fun e w' => e = .returned (.string (keyN s.r s.k)) ∧ Below u.heap.size u w') := Lib.hid (fun u => zKey_any s.r s.k hr hg u)
  have g1 : (s.r.toList == ([] : List UInt8)) = false := by rw [toListN, decide_eq_false h1]
  have g2 : (s.k.toList == ([] : List UInt8)) = false := by rw [toListN, decide_eq_false h2]
  clear h1 h2
  have g3 : ¬ (1024 : Int) < ((keyN s.r s.k).size : Int) := by omega
  have g4 : ¬ (8192 : Int) < (s.v.size : Int) := by omega
  clear h3 h4
  generalize keyN s.r s.k = K1 at *
  clear hr hg d1
  have x0 := b1.c0; have x1 := b1.c1
  have HZ := Lib.hid (And.intro b1 (And.intro b2 d2))
  clear b1 b2 d2
  obtain ⟨rs, ks, vs, ts⟩ := s
  dsimp only at *
  go_enter Tryd.func11, Tryd.ntmps11
  go_wp2_with (go_at_call 13; refine (HK.out _).mono ?_; rintro e u ⟨rfl, q⟩; refine Hid.out ?_)
  refine Lib.hid ?_
  obtain ⟨b1, b2, d2⟩ := HZ.out
  have s6 := b1.on q
  have r6 := b2.on q
  have D6 := d2.trans (q.mono d2.size)
  clear x0 x1 HZ HK b1 b2 d2 q
  have x0 := s6.c0; have x1 := s6.c1; have x2 := s6.c2; have x3 := s6.c3
  dsimp only at x0 x1 x2 x3
  have t0 := r6.c0; have t1 := r6.c1; have t2 := r6.c2; have t3 := r6.c3; have t4 := r6.c4; have y0 := r6.f 0; have y1 := r6.f 1; have y2 := r6.f 2; have y3 := r6.f 3; have y4 := r6.f 4
  dsimp only at t0 t1 t2 t3 t4
  have HF := Lib.hid (r6.store zeroE)
  have HQ := Lib.hid (stE_below D6 (show w.heap.size ≤ w.heap.size + 1 by omega) zeroE)
  try dsimp only [zeroE] at HF HQ
  clear s6 r6 D6
  go_wp2
  refine bodyPost_ret (v := .tuple #[.agg #[.string ⟨#[]⟩, .int .i64 0, .int .u16 0, .string ⟨#[]⟩, .int .i64 0], .int .i64 13]) (by have b5 := HF.out; have z0 := b5.c0; have z1 := b5.c1; have z2 := b5.c2; have z3 := b5.c3; have z4 := b5.c4; try unfold stE at z0 z1 z2 z3 z4; simp [results, Tryd.results11, go_sem, z0, z1, z2, z3, z4]) rfl ?_
  exact ⟨rfl, HQ.out⟩
set_option maxRecDepth 100000 in
set_option maxHeartbeats 4000000 in
theorem zEntry_h (s : Snd) (o keep : Int) (w : World) (hr : s.r.size ≤ 1048576) (hg : s.k.size ≤ 1048576) (h1 : s.r.size ≠ 0) (h2 : s.k.size ≠ 0) (h3 : ¬ 1024 < (keyN s.r s.k).size) (h4 : ¬ 8192 < s.v.size) (h5 : ¬ s.t < 0) (h6 : ¬ keep < 0) (h7 : ¬ 1099511627776 < s.t) (h8 : 1099511627776 - s.t < keep) :
    Calls Tryd.prog 11 #[.agg #[.string s.r, .string s.k, .string s.v, .int .i64 s.t], .int .u16 o, .int .i64 keep] w fun e w' => e = .returned (.tuple #[.agg #[.string ⟨#[]⟩, .int .i64 0, .int .u16 0, .string ⟨#[]⟩, .int .i64 0], .int .i64 13]) ∧ Below w.heap.size w w' := by
  have d1 := (Below.refl w.heap.size w).alloc (Nat.le_refl _) (.cells #[.string s.r, .string s.k, .string s.v, .int .i64 s.t] 33)
  have b1 := (SnBlk.new w s).on ((Below.refl _ _).alloc (Nat.le_refl _) (.cells #[.string ⟨#[]⟩, .int .i64 0, .int .u16 0, .string ⟨#[]⟩, .int .i64 0] 24))
  have d2 := d1.alloc (by simp) (.cells #[.string ⟨#[]⟩, .int .i64 0, .int .u16 0, .string ⟨#[]⟩, .int .i64 0] 24)
  have b2 := EBlk.new (w.alloc (.cells #[.string s.r, .string s.k, .string s.v, .int .i64 s.t] 33)) zeroE
  rw [World.size_alloc] at b2
  dsimp only [zeroE] at b2
  have HK : Hid (∀ u, Calls Tryd.prog 13 #[.string s.r, .string s.k] u fun e w' => e = .returned (.string (keyN s.r s.k)) ∧ Below u.heap.size u w') := Lib.hid (fun u => zKey_any s.r s.k hr hg u)
  have g1 : (s.r.toList == ([] : List UInt8)) = false := by rw [toListN, decide_eq_false h1]
  have g2 : (s.k.toList == ([] : List UInt8)) = false := by rw [toListN, decide_eq_false h2]
  clear h1 h2
  have g3 : ¬ (1024 : Int) < ((keyN s.r s.k).size : Int) := by omega
  have g4 : ¬ (8192 : Int) < (s.v.size : Int) := by omega
  clear h3 h4
  have hw : IntKind.i64.wrap (1099511627776 - s.t) = 1099511627776 - s.t := by rw [IntKind.wrap_i64]; omega
  generalize keyN s.r s.k = K1 at *
  clear hr hg d1
  have x0 := b1.c0; have x1 := b1.c1
  have HZ := Lib.hid (And.intro b1 (And.intro b2 d2))
  clear b1 b2 d2
  obtain ⟨rs, ks, vs, ts⟩ := s
  dsimp only at *
  go_enter Tryd.func11, Tryd.ntmps11
  go_wp2_with (go_at_call 13; refine (HK.out _).mono ?_; rintro e u ⟨rfl, q⟩; refine Hid.out ?_)
  refine Lib.hid ?_
  obtain ⟨b1, b2, d2⟩ := HZ.out
  have s6 := b1.on q
  have r6 := b2.on q
  have D6 := d2.trans (q.mono d2.size)
  clear x0 x1 HZ HK b1 b2 d2 q
  have x0 := s6.c0; have x1 := s6.c1; have x2 := s6.c2; have x3 := s6.c3
  dsimp only at x0 x1 x2 x3
  have t0 := r6.c0; have t1 := r6.c1; have t2 := r6.c2; have t3 := r6.c3; have t4 := r6.c4; have y0 := r6.f 0; have y1 := r6.f 1; have y2 := r6.f 2; have y3 := r6.f 3; have y4 := r6.f 4
  dsimp only at t0 t1 t2 t3 t4
  have HF := Lib.hid (r6.store zeroE)
  have HQ := Lib.hid (stE_below D6 (show w.heap.size ≤ w.heap.size + 1 by omega) zeroE)
  try dsimp only [zeroE] at HF HQ
  clear s6 r6 D6
  go_wp2
  refine bodyPost_ret (v := .tuple #[.agg #[.string ⟨#[]⟩, .int .i64 0, .int .u16 0, .string ⟨#[]⟩, .int .i64 0], .int .i64 13]) (by have b5 := HF.out; have z0 := b5.c0; have z1 := b5.c1; have z2 := b5.c2; have z3 := b5.c3; have z4 := b5.c4; try unfold stE at z0 z1 z2 z3 z4; simp [results, Tryd.results11, go_sem, z0, z1, z2, z3, z4]) rfl ?_
  exact ⟨rfl, HQ.out⟩
set_option maxRecDepth 100000 in
set_option maxHeartbeats 4000000 in
theorem zEntry_i (s : Snd) (o keep : Int) (w : World) (hr : s.r.size ≤ 1048576) (hg : s.k.size ≤ 1048576) (h1 : s.r.size ≠ 0) (h2 : s.k.size ≠ 0) (h3 : ¬ 1024 < (keyN s.r s.k).size) (h4 : ¬ 8192 < s.v.size) (h5 : ¬ s.t < 0) (h6 : ¬ keep < 0) (h7 : ¬ 1099511627776 < s.t) (h8 : ¬ 1099511627776 - s.t < keep) :
    Calls Tryd.prog 11 #[.agg #[.string s.r, .string s.k, .string s.v, .int .i64 s.t], .int .u16 o, .int .i64 keep] w fun e w' => e = .returned (.tuple #[.agg #[.string (keyN s.r s.k), .int .i64 s.t, .int .u16 o, .string s.v, .int .i64 (IntKind.i64.wrap (s.t + keep))], .int .i64 0]) ∧ Below w.heap.size w w' := by
  have d1 := (Below.refl w.heap.size w).alloc (Nat.le_refl _) (.cells #[.string s.r, .string s.k, .string s.v, .int .i64 s.t] 33)
  have b1 := (SnBlk.new w s).on ((Below.refl _ _).alloc (Nat.le_refl _) (.cells #[.string ⟨#[]⟩, .int .i64 0, .int .u16 0, .string ⟨#[]⟩, .int .i64 0] 24))
  have d2 := d1.alloc (by simp) (.cells #[.string ⟨#[]⟩, .int .i64 0, .int .u16 0, .string ⟨#[]⟩, .int .i64 0] 24)
  have b2 := EBlk.new (w.alloc (.cells #[.string s.r, .string s.k, .string s.v, .int .i64 s.t] 33)) zeroE
  rw [World.size_alloc] at b2
  dsimp only [zeroE] at b2
  have HK : Hid (∀ u, Calls Tryd.prog 13 #[.string s.r, .string s.k] u fun e w' => e = .returned (.string (keyN s.r s.k)) ∧ Below u.heap.size u w') := Lib.hid (fun u => zKey_any s.r s.k hr hg u)
  have g1 : (s.r.toList == ([] : List UInt8)) = false := by rw [toListN, decide_eq_false h1]
  have g2 : (s.k.toList == ([] : List UInt8)) = false := by rw [toListN, decide_eq_false h2]
  clear h1 h2
  have g3 : ¬ (1024 : Int) < ((keyN s.r s.k).size : Int) := by omega
  have g4 : ¬ (8192 : Int) < (s.v.size : Int) := by omega
  clear h3 h4
  have hw : IntKind.i64.wrap (1099511627776 - s.t) = 1099511627776 - s.t := by rw [IntKind.wrap_i64]; omega
  generalize keyN s.r s.k = K1 at *
  obtain ⟨U1, hU1⟩ : ∃ z, IntKind.i64.wrap (s.t + keep) = z := ⟨_, rfl⟩
  simp only [hU1]
  clear hr hg d1
  have x0 := b1.c0; have x1 := b1.c1
  have HZ := Lib.hid (And.intro b1 (And.intro b2 d2))
  clear b1 b2 d2
  obtain ⟨rs, ks, vs, ts⟩ := s
  dsimp only at *
  go_enter Tryd.func11, Tryd.ntmps11
  go_wp2_with (go_at_call 13; refine (HK.out _).mono ?_; rintro e u ⟨rfl, q⟩; refine Hid.out ?_)
  refine Lib.hid ?_
  obtain ⟨b1, b2, d2⟩ := HZ.out
  have s6 := b1.on q
  have r6 := b2.on q
  have D6 := d2.trans (q.mono d2.size)
  clear x0 x1 HZ HK b1 b2 d2 q
  have x0 := s6.c0; have x1 := s6.c1; have x2 := s6.c2; have x3 := s6.c3
  dsimp only at x0 x1 x2 x3
  have t0 := r6.c0; have t1 := r6.c1; have t2 := r6.c2; have t3 := r6.c3; have t4 := r6.c4; have y0 := r6.f 0; have y1 := r6.f 1; have y2 := r6.f 2; have y3 := r6.f 3; have y4 := r6.f 4
  dsimp only at t0 t1 t2 t3 t4
  have HF := Lib.hid (r6.store ⟨K1, ts, o, vs, U1⟩)
  have HQ := Lib.hid (stE_below D6 (show w.heap.size ≤ w.heap.size + 1 by omega) ⟨K1, ts, o, vs, U1⟩)
  try dsimp only [zeroE] at HF HQ
  clear s6 r6 D6
  go_wp2
  refine bodyPost_ret (v := .tuple #[.agg #[.string K1, .int .i64 ts, .int .u16 o, .string vs, .int .i64 U1], .int .i64 0]) (by have b5 := HF.out; have z0 := b5.c0; have z1 := b5.c1; have z2 := b5.c2; have z3 := b5.c3; have z4 := b5.c4; try unfold stE at z0 z1 z2 z3 z4; simp [results, Tryd.results11, go_sem, z0, z1, z2, z3, z4]) rfl ?_
  exact ⟨rfl, HQ.out⟩

theorem zEntry_any (s : Snd) (o keep : Int) (w : World) (hr : s.r.size ≤ 1048576) (hg : s.k.size ≤ 1048576) (ht : -9223372036854775808 ≤ s.t ∧ s.t ≤ 9223372036854775807) (hk : -9223372036854775808 ≤ keep ∧ keep ≤ 9223372036854775807) :
    Calls Tryd.prog 11 #[.agg #[.string s.r, .string s.k, .string s.v, .int .i64 s.t], .int .u16 o, .int .i64 keep] w fun e w' => e = .returned (.tuple #[.agg #[.string (ansN s o keep).k, .int .i64 (ansN s o keep).t, .int .u16 (ansN s o keep).o, .string (ansN s o keep).v, .int .i64 (ansN s o keep).u], .int .i64 (errN s keep)]) ∧ Below w.heap.size w w' := by
  by_cases h1 : s.r.size = 0
  · have he := errN_arg1 (keep := keep) h1
    rw [ansN_no (by rw [he]; decide), he]
    exact zEntry_a s o keep w hr hg h1
  by_cases h2 : s.k.size = 0
  · have he := errN_arg2 (keep := keep) h2
    rw [ansN_no (by rw [he]; decide), he]
    exact zEntry_b s o keep w hr hg h1 h2
  have he := errN_words h1 h2 ht hk
  by_cases h3 : 1024 < (keyN s.r s.k).size
  · rw [if_pos (Or.inl h3)] at he
    rw [ansN_no (by rw [he]; decide), he]
    exact zEntry_c s o keep w hr hg h1 h2 h3
  by_cases h4 : 8192 < s.v.size
  · rw [if_pos (Or.inr h4)] at he
    rw [ansN_no (by rw [he]; decide), he]
    exact zEntry_d s o keep w hr hg h1 h2 h3 h4
  rw [if_neg (fun h => h.elim h3 h4)] at he
  by_cases h5 : s.t < 0
  · rw [if_pos (Or.inl h5)] at he
    rw [ansN_no (by rw [he]; decide), he]
    exact zEntry_e s o keep w hr hg h1 h2 h3 h4 h5
  by_cases h6 : keep < 0
  · rw [if_pos (Or.inr (Or.inl h6))] at he
    rw [ansN_no (by rw [he]; decide), he]
    exact zEntry_f s o keep w hr hg h1 h2 h3 h4 h5 h6
  by_cases h7 : 1099511627776 < s.t
  · rw [if_pos (Or.inr (Or.inr (Or.inl h7)))] at he
    rw [ansN_no (by rw [he]; decide), he]
    exact zEntry_g s o keep w hr hg h1 h2 h3 h4 h5 h6 h7
  by_cases h8 : 1099511627776 - s.t < keep
  · rw [if_pos (Or.inr (Or.inr (Or.inr h8)))] at he
    rw [ansN_no (by rw [he]; decide), he]
    exact zEntry_h s o keep w hr hg h1 h2 h3 h4 h5 h6 h7 h8
  · rw [if_neg (fun h => h.elim h5 (fun h => h.elim h6 (fun h => h.elim h7 h8)))] at he
    rw [ansN_ok he, he]
    exact zEntry_i s o keep w hr hg h1 h2 h3 h4 h5 h6 h7 h8

end Go.Proofs.YtieepbjngolaoaaDoor
