/-
  A store in memory; what Put of package alert does.
-/
import Derived.Test.YtdnpfmmkglgnjabDoorA2
namespace Go.Proofs.YtdnpfmmkglgnjabDoor
open Go.RowKit

theorem gOf {w w' : World} (h : Below w.heap.size w w') (row : Option Nat) : w.grownBy w' row := ⟨h.os, h.tape, h.output, h.size, fun k hk _ => h.block k hk⟩
theorem PairsAt.turn {w w' : World} {a : Option Addr} {ps : List Pr} {bm : Nat} {S : List Rw} (h : PairsAt w a ps) (hg : w.grownBy w' (some bm)) (hm : StMap w bm S) : PairsAt w' a ps := fun hn => by
  obtain ⟨b, o, rfl, hc⟩ := h hn
  refine ⟨b, o, rfl, fun i hi => ?_⟩
  obtain ⟨h1, h2⟩ := hc i hi
  have hne : b ≠ bm := fun e => by
    obtain ⟨es, clock, hb, -⟩ := hm
    subst e
    simp [World.cell?, hb] at h1
  have hlt : b < w.heap.size := World.block_lt_of_cell? w _ h1
  have e := hg.block b hlt (fun e => hne (Option.some.inj e))
  rw [World.cell?_of_block (a := ⟨b, o + i * 2, none⟩) e, World.cell?_of_block (a := ⟨b, o + i * 2 + 1, none⟩) e]
  exact ⟨h1, h2⟩
/-- Where pairs that are there lie. -/
theorem PairsAt.lt {w : World} {a : Option Addr} {ps : List Pr} (h : PairsAt w a ps) (hn : 0 < ps.length) : ∃ q, a = some q ∧ q.block < w.heap.size := by
  obtain ⟨b, o, rfl, hc⟩ := h hn
  exact ⟨_, rfl, World.block_lt_of_cell? w _ (hc 0 hn).1⟩

/-- An alert of a store. -/
def RwOk (w : World) (r : Rw) : Prop := PairsAt w r.ad r.ps ∧ alE r.ps r.st r.en = 0
theorem RwOk.below {w w' : World} {r : Rw} {B : Nat} (h : RwOk w r) (hb : Below B w w') (hB : w.heap.size ≤ B) : RwOk w' r := ⟨h.1.below hb hB, h.2⟩
theorem alE_zero {ps : List Pr} {s e : Int} (h : alE ps s e = 0) : checkE ps = 0 ∧ 0 < ps.length ∧ 0 ≤ s ∧ s < e ∧ e ≤ 1099511627776 := by
  unfold alE at h
  split at h
  · rename_i hne; exact absurd h hne
  · rename_i hc
    split at h
    · cases h
    · rename_i hl
      split at h
      · cases h
      · rename_i ht
        exact ⟨Classical.not_not.1 hc, by omega, by omega, by omega, by omega⟩
theorem alE_mk {ps : List Pr} {s e : Int} (h1 : checkE ps = 0) (h2 : 0 < ps.length) (h3 : 0 ≤ s) (h4 : s < e) (h5 : e ≤ 1099511627776) : alE ps s e = 0 := by
  unfold alE
  rw [if_neg (by simp [h1]), if_neg (by omega), if_neg (by omega)]

/-- A store: its block, its map's block, its alerts. -/
def StAt (w : World) (sb bm : Nat) (S : List Rw) : Prop := StBlk w sb bm ∧ StMap w bm S ∧ ∀ r ∈ S, RwOk w r
theorem StAt.below {w w' : World} {sb bm : Nat} {S : List Rw} (h : StAt w sb bm S) {B : Nat} (hb : Below B w w') (hB : w.heap.size ≤ B) : StAt w' sb bm S :=
  ⟨h.1.below hb (Nat.lt_of_lt_of_le (ltA h.1) hB), h.2.1.below hb (Nat.lt_of_lt_of_le h.2.1.lt hB), fun r hr => (h.2.2 r hr).below hb hB⟩
theorem StAt.ne {w : World} {sb bm : Nat} {S : List Rw} (h : StAt w sb bm S) : sb ≠ bm := fun e => by
  obtain ⟨h1, ⟨es, clock, hb, -⟩, -⟩ := h
  subst e
  unfold StBlk at h1
  rw [hb] at h1
  cases h1

theorem acheck_len {ps : List Pr} (h : checkE ps = 0) : ps.length ≤ 8 := by
  unfold checkE at h
  split at h
  · rename_i hne; exact absurd h hne
  · rename_i hne; exact partsE_zero (Classical.not_not.1 hne)
theorem aflat_le : ∀ (ps : List Pr), (∀ p ∈ ps, p.1.size ≤ 64 ∧ p.2.size ≤ 64) → (partsK ps).flatten.length ≤ ps.length * 172
  | [], _ => by simp [partsK]
  | p :: ps, h => by
    have ih := aflat_le ps fun x hx => h x (List.mem_cons_of_mem _ hx)
    have hp := h p (List.mem_cons_self ..)
    have h1 := putText_len' p.1.data.toList (show p.1.size ≤ _ by omega)
    have h2 := putText_len' p.2.data.toList (show p.2.size ≤ _ by omega)
    have e1 : p.1.data.toList.length = p.1.size := rfl
    have e2 : p.2.data.toList.length = p.2.size := rfl
    have e : (partsK (p :: ps)).flatten = putText p.1.data.toList ++ (putText p.2.data.toList ++ (partsK ps).flatten) := by simp [partsK]
    rw [e]
    simp only [List.length_append, List.length_cons]
    omega
theorem akey_len {ps : List Pr} (hc : checkE ps = 0) : (keyL ps).length ≤ maxLen := by
  have h8 := acheck_len hc
  have hf := check_fit hc
  have hl := aflat_le ps fun p hp => by have := hf p hp; omega
  have e : (keyL ps).length = (partsK ps).flatten.length + 2 := by rw [keyL_tail]; simp [tailK]
  unfold maxLen
  omega
/-- Key of pairs that may be. -/
theorem aKey_ok (a : Option Addr) (c : Nat) (ps : List Pr) (B : Nat) (w : World) (h : PairsAt w a ps) (hc : checkE ps = 0) (hB : B ≤ w.heap.size) (hv : TabOk B w) (n : Nat) (hn : n = ps.length) :
    Calls Tryd.prog 20 #[.slice a n c] w fun e w' => e = .returned (.string ⟨(keyL ps).toArray⟩) ∧ Below w.heap.size w w' := by
  have h8 := acheck_len hc
  have hf := check_fit hc
  have hl := aflat_le ps fun p hp => by have := hf p hp; omega
  exact Key_any a c ps B w h (by omega) (fun p hp => by have := hf p hp; omega) (by omega) hB hv n hn

/-- The Start that an alert gets that is told beside what is there. -/
def startA (S : List Rw) (ps : List Pr) (s e : Int) : Int := match S.find? (fun r => r.key == keyL ps) with | some r => if meetP r.st r.en s e then min r.st s else s | none => s
/-- Why an alert is not taken (0: it is). -/
def putE (S : List Rw) (ps : List Pr) (s e : Int) : Int := if alE ps s e ≠ 0 then alE ps s e else if (S.find? (fun r => r.key == keyL ps)).isNone ∧ 64 ≤ S.length then 11 else 0
theorem start_range {w : World} {S : List Rw} {ps : List Pr} {s e : Int} (hS : ∀ r ∈ S, RwOk w r) (h : alE ps s e = 0) : alE ps (startA S ps s e) e = 0 := by
  obtain ⟨h1, h2, h3, h4, h5⟩ := alE_zero h
  unfold startA
  split
  · rename_i r hr
    obtain ⟨-, -, g3, g4, g5⟩ := alE_zero (hS r (List.mem_of_find?_eq_some hr)).2
    split
    · exact alE_mk h1 h2 (by omega) (by omega) h5
    · exact h
  · exact h

/-- What Put leaves. -/
def PutPost (w : World) (sb bm : Nat) (S : List Rw) (ps : List Pr) (s e : Int) (r : Ending) (w' : World) : Prop :=
  r = .returned (.int .i64 (putE S ps s e)) ∧ w.grownBy w' (some bm) ∧ ∃ S', StAt w' sb bm S' ∧ (putE S ps s e ≠ 0 → S' = S) ∧
    (putE S ps s e = 0 → ∃ ad cp, S' = putR ⟨ps, startA S ps s e, e, ad, cp⟩ S ∧ ∀ q, ad = some q → w.heap.size ≤ q.block)

theorem StAt.turn {w w' : World} {sb bm : Nat} {S : List Rw} (h : StAt w sb bm S) (hg : w.grownBy w' (some bm)) {S' : List Rw} (hm : StMap w' bm S') (hS : ∀ r ∈ S', r ∈ S ∨ RwOk w' r) : StAt w' sb bm S' :=
  ⟨h.1.kept hg (fun e => h.ne (Option.some.inj e)), hm, fun r hr => (hS r hr).elim (fun h1 => ⟨(h.2.2 r h1).1.turn hg h.2.1, (h.2.2 r h1).2⟩) id⟩
theorem mem_insR {x y : Rw} : ∀ {S : List Rw}, y ∈ insR x S ↔ y = x ∨ y ∈ S
  | [] => by simp [insR]
  | z :: l => by
    rw [insR]
    split
    · simp
    · rw [List.mem_cons, mem_insR, List.mem_cons]
      constructor
      · rintro (h | h | h)
        · exact .inr (.inl h)
        · exact .inl h
        · exact .inr (.inr h)
      · rintro (h | h | h)
        · exact .inr (.inl h)
        · exact .inl h
        · exact .inr (.inr h)
theorem mem_putR {x y : Rw} {S : List Rw} (h : y ∈ putR x S) : y = x ∨ y ∈ S := by
  rcases mem_insR.1 h with h | h
  · exact .inl h
  · exact .inr (List.mem_filter.1 h).1


set_option maxRecDepth 20000 in
set_option maxHeartbeats 1000000 in
theorem aPut_err (sb bm : Nat) (S : List Rw) (a : Option Addr) (c : Nat) (ps : List Pr) (s e : Int) (w : World) (h : StAt w sb bm S) (hp : PairsAt w a ps) (n : Nat) (hn : n = ps.length) (hE : alE ps s e ≠ 0) : Calls Tryd.prog 9 #[.pointer (some ⟨sb, 0, none⟩), .agg #[.slice a n c, .int .i64 s, .int .i64 e]] w (PutPost w sb bm S ps s e) := by
  have hR : putE S ps s e = alE ps s e := if_pos hE
  have d1 := (Below.refl w.heap.size w).alloc (Nat.le_refl _) (.cells #[.slice a n c, .int .i64 s, .int .i64 e] 25)
  have s1 : (w.alloc (.cells #[.slice a n c, .int .i64 s, .int .i64 e] 25)).heap.size = w.heap.size + 1 := by simp
  have k1 := AlBlk.new w a n c s e
  have HC := Lib.hid (aCheck_any a c ps s e _ (hp.below d1 (Nat.le_refl _)) n hn)
  have HH := Lib.hid (And.intro h (And.intro d1 s1))
  have HR := Lib.hid hR
  clear h hp d1 s1 k1 hR hn
  unfold PutPost
  rw [HR.out]
  generalize alE ps s e = E at *
  go_enter Tryd.func9, Tryd.ntmps9
  go_wp2_with (go_at_call 19; refine HC.out.mono ?_; rintro r w' ⟨rfl, hb⟩; refine Hid.out ?_)
  refine Lib.hid ?_
  obtain ⟨h, d1, s1⟩ := HH.out
  have b2 := d1.trans (hb.mono (by omega))
  have HP := Lib.hid (And.intro (gOf b2 (some bm)) (h.below b2 (Nat.le_refl _)))
  clear h d1 hb b2 HC HH s1
  go_wp2
  go_ret
  exact ⟨rfl, HP.out.1, S, HP.out.2, fun _ => rfl, fun e => absurd e hE⟩

set_option maxRecDepth 20000 in
set_option maxHeartbeats 2000000 in
theorem aPut_full (sb bm : Nat) (S : List Rw) (a : Option Addr) (c : Nat) (ps : List Pr) (s e : Int) (B : Nat) (w : World) (h : StAt w sb bm S) (hp : PairsAt w a ps) (hB : B ≤ w.heap.size) (hv : TabOk B w) (n : Nat) (hn : n = ps.length) (hE : alE ps s e = 0) (hno : ∀ r ∈ S, r.key ≠ keyL ps) (h64 : 64 ≤ S.length) : Calls Tryd.prog 9 #[.pointer (some ⟨sb, 0, none⟩), .agg #[.slice a n c, .int .i64 s, .int .i64 e]] w (PutPost w sb bm S ps s e) := by
  have hfi : S.find? (fun r => r.key == keyL ps) = none := List.find?_eq_none.2 fun r hr e => hno r hr (by simpa using e)
  have hR : putE S ps s e = 11 := by unfold putE; rw [if_neg (by simp [hE]), if_pos (by rw [hfi]; exact ⟨rfl, h64⟩)]
  obtain ⟨hck, hln, -, -, -⟩ := alE_zero hE
  have d1 := (Below.refl w.heap.size w).alloc (Nat.le_refl _) (.cells #[.slice a n c, .int .i64 s, .int .i64 e] 25)
  have s1 : (w.alloc (.cells #[.slice a n c, .int .i64 s, .int .i64 e] 25)).heap.size = w.heap.size + 1 := by simp
  have k1 := AlBlk.new w a n c s e
  have HC := Lib.hid (aCheck_any a c ps s e _ (hp.below d1 (Nat.le_refl _)) n hn)
  rw [hE] at HC
  have HK := Lib.hid (fun u (hb : Below w.heap.size w u) => aKey_ok a c ps B u (hp.below hb (Nat.le_refl _)) hck (Nat.le_trans hB hb.size) (hv.on (hb.mono hB)) n hn)
  have HO := Lib.hid (fun u (hb : Below w.heap.size w u) s' => aOwn_any a c ps s' e u (hp.below hb (Nat.le_refl _)) (by have := acheck_len hck; omega) n hn)
  have hkl := akey_len hck
  have HN := Lib.hid hn
  have HE := Lib.hid hE
  have HNO := Lib.hid hno
  clear hno
  have HH := Lib.hid (And.intro h (And.intro d1 (And.intro s1 k1)))
  clear h hp d1 s1 k1 hn hE hck hln hB hv
  unfold PutPost
  obtain ⟨kk, HKK⟩ : ∃ k, Hid (keyL ps = k) := ⟨_, Lib.hid rfl⟩
  rw [HKK.out] at HK hkl
  rw [hR]
  have h64' : (64 : Int) ≤ (S.length : Int) := by omega
  clear HO hR hfi
  go_enter Tryd.func9, Tryd.ntmps9
  go_wp2_with (go_at_call 19; refine HC.out.mono ?_; rintro r w2 ⟨rfl, hb2⟩; refine Hid.out ?_)
  refine Lib.hid ?_
  obtain ⟨h, d1, s1, k1⟩ := HH.out
  have b2 := d1.trans (hb2.mono (by omega))
  have k2 := k1.below hb2 (by omega)
  have HK2 := Lib.hid (HK.out w2 b2)
  have HH2 := Lib.hid (And.intro h (And.intro b2 k2))
  have c0 := k2.c0
  clear h d1 s1 k1 b2 k2 hb2 HH HC HK
  go_wp2_with (go_at_call 20; refine HK2.out.mono ?_; rintro r w3 ⟨rfl, hb3⟩; refine Hid.out ?_)
  refine Lib.hid ?_
  obtain ⟨h, b2, k2⟩ := HH2.out
  have k3 := k2.below hb3 (ltA k2)
  have b3 := b2.trans (hb3.mono b2.size)
  have h3 := h.below b3 (Nat.le_refl _)
  clear c0 b2 k2 HK2 HH2 hb3
  have hl : (Instr.lookup 45 (.map (some bm)) (.string ⟨kk.toArray⟩) true).run Tryd.prog w3 = .ok (.tuple #[.agg #[.slice none 0 0, .int .i64 0, .int .i64 0], .bool false]) w3 := h3.2.1.look_no hkl (fun r hr => by rw [← HKK.out]; exact HNO.out r hr) true
  have d4 := (Below.refl w3.heap.size w3).alloc (Nat.le_refl _) (.cells #[.slice none 0 0, .int .i64 0, .int .i64 0] 25)
  have h4 := h3.below d4 (Nat.le_refl _)
  have m0 := h3.1.c0
  have m1 := h4.1.c0
  have hsz := h4.2.1.size
  have b4 := b3.trans (d4.mono b3.size)
  have HP := Lib.hid (And.intro (gOf b4 (some bm)) h4)
  clear h4 b4 d4 h3 k3 b3 h
  go_wp2
  go_ret
  exact ⟨rfl, HP.out.1, S, HP.out.2, fun _ => rfl, fun e => by cases e⟩

set_option maxRecDepth 20000 in
set_option maxHeartbeats 4000000 in
theorem aPut_new (sb bm : Nat) (S : List Rw) (a : Option Addr) (c : Nat) (ps : List Pr) (s e : Int) (B : Nat) (w : World) (h : StAt w sb bm S) (hp : PairsAt w a ps) (hB : B ≤ w.heap.size) (hv : TabOk B w) (n : Nat) (hn : n = ps.length) (hE : alE ps s e = 0) (hno : ∀ r ∈ S, r.key ≠ keyL ps) (h64 : ¬ 64 ≤ S.length) : Calls Tryd.prog 9 #[.pointer (some ⟨sb, 0, none⟩), .agg #[.slice a n c, .int .i64 s, .int .i64 e]] w (PutPost w sb bm S ps s e) := by
  have hfi : S.find? (fun r => r.key == keyL ps) = none := List.find?_eq_none.2 fun r hr e => hno r hr (by simpa using e)
  have hR : putE S ps s e = 0 := by unfold putE; rw [if_neg (by simp [hE]), if_neg (by rintro ⟨-, h⟩; exact h64 h)]
  have hA : startA S ps s e = s := by unfold startA; rw [hfi]
  obtain ⟨hck, hln, -, -, -⟩ := alE_zero hE
  have d1 := (Below.refl w.heap.size w).alloc (Nat.le_refl _) (.cells #[.slice a n c, .int .i64 s, .int .i64 e] 25)
  have s1 : (w.alloc (.cells #[.slice a n c, .int .i64 s, .int .i64 e] 25)).heap.size = w.heap.size + 1 := by simp
  have k1 := AlBlk.new w a n c s e
  have HC := Lib.hid (aCheck_any a c ps s e _ (hp.below d1 (Nat.le_refl _)) n hn)
  rw [hE] at HC
  have HK := Lib.hid (fun u (hb : Below w.heap.size w u) => aKey_ok a c ps B u (hp.below hb (Nat.le_refl _)) hck (Nat.le_trans hB hb.size) (hv.on (hb.mono hB)) n hn)
  have HO := Lib.hid (fun u (hb : Below w.heap.size w u) s' => aOwn_any a c ps s' e u (hp.below hb (Nat.le_refl _)) (by have := acheck_len hck; omega) n hn)
  have hkl := akey_len hck
  have HN := Lib.hid hn
  have HE := Lib.hid hE
  have HNO := Lib.hid hno
  clear hno
  have HH := Lib.hid (And.intro h (And.intro d1 (And.intro s1 k1)))
  clear h hp d1 s1 k1 hn hE hck hln hB hv
  unfold PutPost
  obtain ⟨kk, HKK⟩ : ∃ k, Hid (keyL ps = k) := ⟨_, Lib.hid rfl⟩
  rw [HKK.out] at HK hkl
  rw [hR, hA]
  have h64' : ¬ (64 : Int) ≤ (S.length : Int) := by omega
  clear hR hfi hA
  go_enter Tryd.func9, Tryd.ntmps9
  go_wp2_with (go_at_call 19; refine HC.out.mono ?_; rintro r w2 ⟨rfl, hb2⟩; refine Hid.out ?_)
  refine Lib.hid ?_
  obtain ⟨h, d1, s1, k1⟩ := HH.out
  have b2 := d1.trans (hb2.mono (by omega))
  have k2 := k1.below hb2 (by omega)
  have HK2 := Lib.hid (HK.out w2 b2)
  have HH2 := Lib.hid (And.intro h (And.intro b2 k2))
  have c0 := k2.c0
  clear h d1 s1 k1 b2 k2 hb2 HH HC HK
  go_wp2_with (go_at_call 20; refine HK2.out.mono ?_; rintro r w3 ⟨rfl, hb3⟩; refine Hid.out ?_)
  refine Lib.hid ?_
  obtain ⟨h, b2, k2⟩ := HH2.out
  have k3 := k2.below hb3 (ltA k2)
  have b3 := b2.trans (hb3.mono b2.size)
  have h3 := h.below b3 (Nat.le_refl _)
  clear c0 b2 k2 HK2 HH2 hb3
  have hl : (Instr.lookup 45 (.map (some bm)) (.string ⟨kk.toArray⟩) true).run Tryd.prog w3 = .ok (.tuple #[.agg #[.slice none 0 0, .int .i64 0, .int .i64 0], .bool false]) w3 := h3.2.1.look_no hkl (fun r hr => by rw [← HKK.out]; exact HNO.out r hr) true
  have d4 := (Below.refl w3.heap.size w3).alloc (Nat.le_refl _) (.cells #[.slice none 0 0, .int .i64 0, .int .i64 0] 25)
  have h4 := h3.below d4 (Nat.le_refl _)
  have k4 := k3.below d4 (ltA k3)
  have m0 := h3.1.c0
  have m1 := h4.1.c0
  have hsz := h4.2.1.size
  have b4 := b3.trans (d4.mono b3.size)
  have HP := Lib.hid (And.intro b4 (And.intro h4 k4))
  clear h4 b4 d4 h3 k3 b3 k4
  go_wp2_with fail
  obtain ⟨b4, h4, k4⟩ := HP.out
  clear HP hsz m1 m0 hl
  generalize w3.alloc (.cells #[.slice none 0 0, .int .i64 0, .int .i64 0] 25) = w4 at *
  have HE2 := HE
  refine wp_region_any (by kernel_rfl) ?_
  change wpAny _ _ _ _ _ _ _ (World.drew _)
  have HO4 := Lib.hid (HO.out w4.drew b4.drew s)
  have hS : (fun w' : World => StBlk w' sb bm ∧ AlBlk w' w.heap.size a n c s e) w4.drew := ⟨h4.1, k4⟩
  refine wpAny_of_held (S := fun w' => StBlk w' sb bm ∧ AlBlk w' w.heap.size a n c s e) _ _ _ _ ?_
  refine wpAnyH_takeA (i := 0) (some 50) (v := ?_) rfl rfl (by as_aux_lemma => kernel_rfl) (by as_aux_lemma => kernel_rfl) (by as_aux_lemma => kernel_rfl) (fun _ _ _ h => h) (Or.inl ⟨by kernel_rfl, ?_⟩) hS ?_
  rotate_left
  · intro w hSw; have c0 := hSw.1.c0; have c1 := hSw.2.c0; have c2 := hSw.2.c1; have c3 := hSw.2.c2; go_simp
    first | done | with_reducible rfl
  refine wpAnyH_takeA (i := 1) (some 51) (v := ?_) rfl rfl (by as_aux_lemma => kernel_rfl) (by as_aux_lemma => kernel_rfl) (by as_aux_lemma => kernel_rfl) (fun _ _ _ h => h) (Or.inl ⟨by kernel_rfl, ?_⟩) hS ?_
  rotate_left
  · intro w hSw; have c0 := hSw.1.c0; have c1 := hSw.2.c0; have c2 := hSw.2.c1; have c3 := hSw.2.c2; go_simp
    first | done | with_reducible rfl
  refine wpAnyH_takeA (i := 2) (some 52) (v := ?_) rfl rfl (by as_aux_lemma => kernel_rfl) (by as_aux_lemma => kernel_rfl) (by as_aux_lemma => kernel_rfl) (fun _ _ _ h => h) (Or.inl ⟨by kernel_rfl, ?_⟩) hS ?_
  rotate_left
  · intro w hSw; have c0 := hSw.1.c0; have c1 := hSw.2.c0; have c2 := hSw.2.c1; have c3 := hSw.2.c2; go_simp
    first | done | with_reducible rfl
  refine wpAnyH_takeA (i := 3) (some 53) (v := ?_) rfl rfl (by as_aux_lemma => kernel_rfl) (by as_aux_lemma => kernel_rfl) (by as_aux_lemma => kernel_rfl) (fun _ _ _ h => h) (Or.inl ⟨by kernel_rfl, ?_⟩) hS ?_
  rotate_left
  · intro w hSw; have c0 := hSw.1.c0; have c1 := hSw.2.c0; have c2 := hSw.2.c1; have c3 := hSw.2.c2; go_simp
    first | done | with_reducible rfl
  refine wpAnyH_takeA (i := 4) (some 54) (v := ?_) rfl rfl (by as_aux_lemma => kernel_rfl) (by as_aux_lemma => kernel_rfl) (by as_aux_lemma => kernel_rfl) (fun _ _ _ h => h) (Or.inl ⟨by kernel_rfl, ?_⟩) hS ?_
  rotate_left
  · intro w hSw; have c0 := hSw.1.c0; have c1 := hSw.2.c0; have c2 := hSw.2.c1; have c3 := hSw.2.c2; go_simp
    first | done | with_reducible rfl
  refine wpAnyH_takeA (i := 5) (some 55) (v := ?_) rfl rfl (by as_aux_lemma => kernel_rfl) (by as_aux_lemma => kernel_rfl) (by as_aux_lemma => kernel_rfl) (fun _ _ _ h => h) (Or.inl ⟨by kernel_rfl, ?_⟩) hS ?_
  rotate_left
  · intro w hSw; have c0 := hSw.1.c0; have c1 := hSw.2.c0; have c2 := hSw.2.c1; have c3 := hSw.2.c2; go_simp
    first | done | with_reducible rfl
  refine wpAnyH_ready (rs := [6]) (by as_aux_lemma => kernel_rfl) (by simp) ?_
  refine AllReadyH.cons rfl (fun K hK => ?_) AllReadyH.nil
  go_simp
  go_wp2_with (go_at_call 22; refine HO4.out.mono ?_; rintro r w5 ⟨a', c', rfl, hown, hb5⟩)
  refine hK.out _ _ ?_ (fun hS => ?_)
  · exact ⟨hS.1.below hb5 (ltA hS.1), hS.2.below hb5 (ltA hS.2)⟩
  clear hK K
  refine wpAnyH_ready (rs := [7]) (by as_aux_lemma => kernel_rfl) (by simp) ?_
  refine AllReadyH.cons rfl (fun K hK => ?_) AllReadyH.nil
  obtain ⟨a5, c5, hv5, hat, -, hq⟩ := hown.form
  simp only [← HN.out, Value.slice.injEq, true_and] at hv5
  obtain ⟨rfl, rfl⟩ := hv5
  have hb5' : Below w4.heap.size w4 w5 := (Below.refl w4.heap.size w4).drew.trans hb5
  have h5 := h4.below hb5' (Nat.le_refl _)
  have hx : (⟨ps, s, e, a', c'⟩ : Rw).key = kk := HKK.out
  refine step_putR rfl _ _ _ rfl h5.2.1 ⟨ps, s, e, a', c'⟩ (by rw [hx]; exact hkl) (by unfold maxLen; omega) rfl (by rw [hx]; rfl) (by unfold Rw.val; rw [← HN.out]; rfl) ?_
  intro w6 hm6 hg6
  refine hK.out _ _ ⟨hS.1.kept hg6 (fun e => h4.ne (Option.some.inj e)), (hg6.block _ (ltA hS.2) (fun e => by have := Option.some.inj e; have := h.2.1.lt; omega)).trans hS.2⟩ (fun _ => ?_)
  clear hK K
  refine wpAnyH_done (by kernel_rfl) ?_ _
  have hgr : w.grownBy w6 (some bm) := (gOf (b4.trans (hb5'.mono b4.size)) (some bm)).andThen hg6 (fun j hj => .inr hj)
  have h6 : StAt w6 sb bm (putR ⟨ps, s, e, a', c'⟩ S) := h5.turn hg6 hm6 (fun r hr => (mem_putR hr).elim (fun e => .inr (by subst e; exact ⟨hat.turn hg6 h5.2.1, HE2.out⟩)) .inl)
  have HP := Lib.hid (And.intro hgr h6)
  have HQ : Hid (∀ q, a' = some q → w.heap.size ≤ q.block) := Lib.hid fun q e => Nat.le_trans b4.size (hq q e).1
  clear hgr h6 hS hat hq hown hb5 hb5' h5 hx hm6 hg6 HO4 HO b4 h4 k4
  go_simp
  go_wp2
  go_ret
  exact ⟨rfl, HP.out.1, _, HP.out.2, fun e => absurd rfl e, fun _ => ⟨a', c', rfl, HQ.out⟩⟩


set_option maxRecDepth 20000 in
set_option maxHeartbeats 4000000 in
theorem aPut_apart (sb bm : Nat) (S : List Rw) (a : Option Addr) (c : Nat) (ps : List Pr) (s e : Int) (B : Nat) (w : World) (h : StAt w sb bm S) (hp : PairsAt w a ps) (hB : B ≤ w.heap.size) (hv : TabOk B w) (n : Nat) (hn : n = ps.length) (hE : alE ps s e = 0) (h64 : S.length ≤ 64) (r0 : Rw) (hr0 : r0 ∈ S) (hk0 : r0.key = keyL ps) (hmt : meetP r0.st r0.en s e = false) : Calls Tryd.prog 9 #[.pointer (some ⟨sb, 0, none⟩), .agg #[.slice a n c, .int .i64 s, .int .i64 e]] w (PutPost w sb bm S ps s e) := by
  have hfi : S.find? (fun r => r.key == keyL ps) = some r0 := by rw [← hk0]; exact find_key h.2.1.rising hr0
  have hR : putE S ps s e = 0 := by unfold putE; rw [if_neg (by simp [hE]), if_neg (by rw [hfi]; rintro ⟨h, -⟩; cases h)]
  have hA : startA S ps s e = s := by unfold startA; rw [hfi]; simp [hmt]
  have HE2 : Hid (alE ps s e = 0) := Lib.hid (by rw [← hA]; exact start_range h.2.2 hE)
  obtain ⟨hck, hln, -, -, -⟩ := alE_zero hE
  have d1 := (Below.refl w.heap.size w).alloc (Nat.le_refl _) (.cells #[.slice a n c, .int .i64 s, .int .i64 e] 25)
  have s1 : (w.alloc (.cells #[.slice a n c, .int .i64 s, .int .i64 e] 25)).heap.size = w.heap.size + 1 := by simp
  have k1 := AlBlk.new w a n c s e
  have HC := Lib.hid (aCheck_any a c ps s e _ (hp.below d1 (Nat.le_refl _)) n hn)
  rw [hE] at HC
  have HK := Lib.hid (fun u (hb : Below w.heap.size w u) => aKey_ok a c ps B u (hp.below hb (Nat.le_refl _)) hck (Nat.le_trans hB hb.size) (hv.on (hb.mono hB)) n hn)
  have HO := Lib.hid (fun u (hb : Below w.heap.size w u) s' => aOwn_any a c ps s' e u (hp.below hb (Nat.le_refl _)) (by have := acheck_len hck; omega) n hn)
  have hkl := akey_len hck
  have HN := Lib.hid hn
  have HE := Lib.hid hE
  have HK0 := Lib.hid hk0
  clear hk0
  have HH := Lib.hid (And.intro h (And.intro d1 (And.intro s1 k1)))
  clear h hp d1 s1 k1 hn hE hck hln hB hv
  unfold PutPost
  obtain ⟨kk, HKK⟩ : ∃ k, Hid (keyL ps = k) := ⟨_, Lib.hid rfl⟩
  rw [HKK.out] at HK hkl
  rw [hR, hA]
  clear hR hfi hA
  go_enter Tryd.func9, Tryd.ntmps9
  go_wp2_with (go_at_call 19; refine HC.out.mono ?_; rintro r w2 ⟨rfl, hb2⟩; refine Hid.out ?_)
  refine Lib.hid ?_
  obtain ⟨h, d1, s1, k1⟩ := HH.out
  have b2 := d1.trans (hb2.mono (by omega))
  have k2 := k1.below hb2 (by omega)
  have HK2 := Lib.hid (HK.out w2 b2)
  have HH2 := Lib.hid (And.intro h (And.intro b2 k2))
  have c0 := k2.c0
  clear h d1 s1 k1 b2 k2 hb2 HH HC HK
  go_wp2_with (go_at_call 20; refine HK2.out.mono ?_; rintro r w3 ⟨rfl, hb3⟩; refine Hid.out ?_)
  refine Lib.hid ?_
  obtain ⟨h, b2, k2⟩ := HH2.out
  have k3 := k2.below hb3 (ltA k2)
  have b3 := b2.trans (hb3.mono b2.size)
  have h3 := h.below b3 (Nat.le_refl _)
  clear c0 b2 k2 HK2 HH2 hb3
  have hl : (Instr.lookup 45 (.map (some bm)) (.string ⟨kk.toArray⟩) true).run Tryd.prog w3 = .ok (.tuple #[.agg #[.slice r0.ad r0.ps.length r0.cp, .int .i64 r0.st, .int .i64 r0.en], .bool true]) w3 := by
    have e : r0.key = kk := HK0.out.trans HKK.out
    subst e
    exact h3.2.1.look_yes hr0 hkl true
  have d4 := (Below.refl w3.heap.size w3).alloc (Nat.le_refl _) (.cells #[.slice r0.ad r0.ps.length r0.cp, .int .i64 r0.st, .int .i64 r0.en] 25)
  have h4 := h3.below d4 (Nat.le_refl _)
  have k4 := k3.below d4 (ltA k3)
  have o4 := AlBlk.new w3 r0.ad r0.ps.length r0.cp r0.st r0.en
  have m0 := h3.1.c0
  have b4 := b3.trans (d4.mono b3.size)
  have HM := Lib.hid (aMeet_any r0.ad a r0.ps.length r0.cp n c r0.st r0.en s e (w3.alloc (.cells #[.slice r0.ad r0.ps.length r0.cp, .int .i64 r0.st, .int .i64 r0.en] 25)))
  rw [hmt] at HM
  have e0 := k4.c0; have e1 := k4.c1; have e2 := k4.c2
  have hlt3 := ltA k3
  have HP := Lib.hid (And.intro b4 (And.intro h4 (And.intro k4 (And.intro o4 hlt3))))
  clear h4 b4 d4 h3 k3 b3 k4 o4 hmt hlt3
  go_wp2_with (go_at_call 21; refine HM.out.mono ?_; rintro r wm ⟨rfl, hbm⟩; refine Hid.out ?_)
  refine Lib.hid ?_
  obtain ⟨b4, h4, k4, o4, hlt3⟩ := HP.out
  have b5 := b4.trans (hbm.mono b4.size)
  have h5 := h4.below hbm (Nat.le_refl _)
  have k5 := k4.below hbm (ltA k4)
  have o5 := o4.below hbm (ltA o4)
  clear HP m0 hl e0 e1 e2 b4 h4 k4 o4 HM hbm
  have HP := Lib.hid (And.intro b5 (And.intro h5 k5))
  clear b5 h5 k5 o5 hlt3
  go_wp2_with fail
  obtain ⟨b4, h4, k4⟩ := HP.out
  clear HP
  generalize wm = w4 at *
  refine wp_region_any (by kernel_rfl) ?_
  change wpAny _ _ _ _ _ _ _ (World.drew _)
  have HO4 := Lib.hid (HO.out w4.drew b4.drew s)
  have hS : (fun w' : World => StBlk w' sb bm ∧ AlBlk w' w.heap.size a n c s e) w4.drew := ⟨h4.1, k4⟩
  refine wpAny_of_held (S := fun w' => StBlk w' sb bm ∧ AlBlk w' w.heap.size a n c s e) _ _ _ _ ?_
  refine wpAnyH_takeA (i := 0) (some 50) (v := ?_) rfl rfl (by as_aux_lemma => kernel_rfl) (by as_aux_lemma => kernel_rfl) (by as_aux_lemma => kernel_rfl) (fun _ _ _ h => h) (Or.inl ⟨by kernel_rfl, ?_⟩) hS ?_
  rotate_left
  · intro w hSw; have c0 := hSw.1.c0; have c1 := hSw.2.c0; have c2 := hSw.2.c1; have c3 := hSw.2.c2; go_simp
    first | done | with_reducible rfl
  refine wpAnyH_takeA (i := 1) (some 51) (v := ?_) rfl rfl (by as_aux_lemma => kernel_rfl) (by as_aux_lemma => kernel_rfl) (by as_aux_lemma => kernel_rfl) (fun _ _ _ h => h) (Or.inl ⟨by kernel_rfl, ?_⟩) hS ?_
  rotate_left
  · intro w hSw; have c0 := hSw.1.c0; have c1 := hSw.2.c0; have c2 := hSw.2.c1; have c3 := hSw.2.c2; go_simp
    first | done | with_reducible rfl
  refine wpAnyH_takeA (i := 2) (some 52) (v := ?_) rfl rfl (by as_aux_lemma => kernel_rfl) (by as_aux_lemma => kernel_rfl) (by as_aux_lemma => kernel_rfl) (fun _ _ _ h => h) (Or.inl ⟨by kernel_rfl, ?_⟩) hS ?_
  rotate_left
  · intro w hSw; have c0 := hSw.1.c0; have c1 := hSw.2.c0; have c2 := hSw.2.c1; have c3 := hSw.2.c2; go_simp
    first | done | with_reducible rfl
  refine wpAnyH_takeA (i := 3) (some 53) (v := ?_) rfl rfl (by as_aux_lemma => kernel_rfl) (by as_aux_lemma => kernel_rfl) (by as_aux_lemma => kernel_rfl) (fun _ _ _ h => h) (Or.inl ⟨by kernel_rfl, ?_⟩) hS ?_
  rotate_left
  · intro w hSw; have c0 := hSw.1.c0; have c1 := hSw.2.c0; have c2 := hSw.2.c1; have c3 := hSw.2.c2; go_simp
    first | done | with_reducible rfl
  refine wpAnyH_takeA (i := 4) (some 54) (v := ?_) rfl rfl (by as_aux_lemma => kernel_rfl) (by as_aux_lemma => kernel_rfl) (by as_aux_lemma => kernel_rfl) (fun _ _ _ h => h) (Or.inl ⟨by kernel_rfl, ?_⟩) hS ?_
  rotate_left
  · intro w hSw; have c0 := hSw.1.c0; have c1 := hSw.2.c0; have c2 := hSw.2.c1; have c3 := hSw.2.c2; go_simp
    first | done | with_reducible rfl
  refine wpAnyH_takeA (i := 5) (some 55) (v := ?_) rfl rfl (by as_aux_lemma => kernel_rfl) (by as_aux_lemma => kernel_rfl) (by as_aux_lemma => kernel_rfl) (fun _ _ _ h => h) (Or.inl ⟨by kernel_rfl, ?_⟩) hS ?_
  rotate_left
  · intro w hSw; have c0 := hSw.1.c0; have c1 := hSw.2.c0; have c2 := hSw.2.c1; have c3 := hSw.2.c2; go_simp
    first | done | with_reducible rfl
  refine wpAnyH_ready (rs := [6]) (by as_aux_lemma => kernel_rfl) (by simp) ?_
  refine AllReadyH.cons rfl (fun K hK => ?_) AllReadyH.nil
  go_simp
  go_wp2_with (go_at_call 22; refine HO4.out.mono ?_; rintro r w5 ⟨a', c', rfl, hown, hb5⟩)
  refine hK.out _ _ ?_ (fun hS => ?_)
  · exact ⟨hS.1.below hb5 (ltA hS.1), hS.2.below hb5 (ltA hS.2)⟩
  clear hK K
  refine wpAnyH_ready (rs := [7]) (by as_aux_lemma => kernel_rfl) (by simp) ?_
  refine AllReadyH.cons rfl (fun K hK => ?_) AllReadyH.nil
  obtain ⟨a5, c5, hv5, hat, -, hq⟩ := hown.form
  simp only [← HN.out, Value.slice.injEq, true_and] at hv5
  obtain ⟨rfl, rfl⟩ := hv5
  have hb5' : Below w4.heap.size w4 w5 := (Below.refl w4.heap.size w4).drew.trans hb5
  have h5 := h4.below hb5' (Nat.le_refl _)
  have hx : (⟨ps, s, e, a', c'⟩ : Rw).key = kk := HKK.out
  refine step_putR rfl _ _ _ rfl h5.2.1 ⟨ps, s, e, a', c'⟩ (by rw [hx]; exact hkl) (by unfold maxLen; omega) rfl (by rw [hx]; rfl) (by unfold Rw.val; rw [← HN.out]; rfl) ?_
  intro w6 hm6 hg6
  refine hK.out _ _ ⟨hS.1.kept hg6 (fun e => h4.ne (Option.some.inj e)), (hg6.block _ (ltA hS.2) (fun e => by have := Option.some.inj e; have := h.2.1.lt; omega)).trans hS.2⟩ (fun _ => ?_)
  clear hK K
  refine wpAnyH_done (by kernel_rfl) ?_ _
  have hgr : w.grownBy w6 (some bm) := (gOf (b4.trans (hb5'.mono b4.size)) (some bm)).andThen hg6 (fun j hj => .inr hj)
  have h6 : StAt w6 sb bm (putR ⟨ps, s, e, a', c'⟩ S) := h5.turn hg6 hm6 (fun r hr => (mem_putR hr).elim (fun e => .inr (by subst e; exact ⟨hat.turn hg6 h5.2.1, HE2.out⟩)) .inl)
  have HP := Lib.hid (And.intro hgr h6)
  have HQ : Hid (∀ q, a' = some q → w.heap.size ≤ q.block) := Lib.hid fun q e => Nat.le_trans b4.size (hq q e).1
  clear hgr h6 hS hat hq hown hb5 hb5' h5 hx hm6 hg6 HO4 HO b4 h4 k4
  go_simp
  go_wp2
  go_ret
  exact ⟨rfl, HP.out.1, _, HP.out.2, fun e => absurd rfl e, fun _ => ⟨a', c', rfl, HQ.out⟩⟩


set_option maxRecDepth 20000 in
set_option maxHeartbeats 4000000 in
theorem aPut_meet (sb bm : Nat) (S : List Rw) (a : Option Addr) (c : Nat) (ps : List Pr) (s e : Int) (B : Nat) (w : World) (h : StAt w sb bm S) (hp : PairsAt w a ps) (hB : B ≤ w.heap.size) (hv : TabOk B w) (n : Nat) (hn : n = ps.length) (hE : alE ps s e = 0) (h64 : S.length ≤ 64) (r0 : Rw) (hr0 : r0 ∈ S) (hk0 : r0.key = keyL ps) (hmt : meetP r0.st r0.en s e = true) : Calls Tryd.prog 9 #[.pointer (some ⟨sb, 0, none⟩), .agg #[.slice a n c, .int .i64 s, .int .i64 e]] w (PutPost w sb bm S ps s e) := by
  have hfi : S.find? (fun r => r.key == keyL ps) = some r0 := by rw [← hk0]; exact find_key h.2.1.rising hr0
  have hR : putE S ps s e = 0 := by unfold putE; rw [if_neg (by simp [hE]), if_neg (by rw [hfi]; rintro ⟨h, -⟩; cases h)]
  have hA : startA S ps s e = (min r0.st s) := by unfold startA; rw [hfi]; simp [hmt]
  have HE2 : Hid (alE ps (min r0.st s) e = 0) := Lib.hid (by rw [← hA]; exact start_range h.2.2 hE)
  obtain ⟨hck, hln, -, -, -⟩ := alE_zero hE
  have d1 := (Below.refl w.heap.size w).alloc (Nat.le_refl _) (.cells #[.slice a n c, .int .i64 s, .int .i64 e] 25)
  have s1 : (w.alloc (.cells #[.slice a n c, .int .i64 s, .int .i64 e] 25)).heap.size = w.heap.size + 1 := by simp
  have k1 := AlBlk.new w a n c s e
  have HC := Lib.hid (aCheck_any a c ps s e _ (hp.below d1 (Nat.le_refl _)) n hn)
  rw [hE] at HC
  have HK := Lib.hid (fun u (hb : Below w.heap.size w u) => aKey_ok a c ps B u (hp.below hb (Nat.le_refl _)) hck (Nat.le_trans hB hb.size) (hv.on (hb.mono hB)) n hn)
  have HO := Lib.hid (fun u (hb : Below w.heap.size w u) s' => aOwn_any a c ps s' e u (hp.below hb (Nat.le_refl _)) (by have := acheck_len hck; omega) n hn)
  have hkl := akey_len hck
  have HN := Lib.hid hn
  have HE := Lib.hid hE
  have HK0 := Lib.hid hk0
  clear hk0
  have HH := Lib.hid (And.intro h (And.intro d1 (And.intro s1 k1)))
  clear h hp d1 s1 k1 hn hE hck hln hB hv
  unfold PutPost
  obtain ⟨kk, HKK⟩ : ∃ k, Hid (keyL ps = k) := ⟨_, Lib.hid rfl⟩
  rw [HKK.out] at HK hkl
  rw [hR, hA]
  clear hR hfi hA
  go_enter Tryd.func9, Tryd.ntmps9
  go_wp2_with (go_at_call 19; refine HC.out.mono ?_; rintro r w2 ⟨rfl, hb2⟩; refine Hid.out ?_)
  refine Lib.hid ?_
  obtain ⟨h, d1, s1, k1⟩ := HH.out
  have b2 := d1.trans (hb2.mono (by omega))
  have k2 := k1.below hb2 (by omega)
  have HK2 := Lib.hid (HK.out w2 b2)
  have HH2 := Lib.hid (And.intro h (And.intro b2 k2))
  have c0 := k2.c0
  clear h d1 s1 k1 b2 k2 hb2 HH HC HK
  go_wp2_with (go_at_call 20; refine HK2.out.mono ?_; rintro r w3 ⟨rfl, hb3⟩; refine Hid.out ?_)
  refine Lib.hid ?_
  obtain ⟨h, b2, k2⟩ := HH2.out
  have k3 := k2.below hb3 (ltA k2)
  have b3 := b2.trans (hb3.mono b2.size)
  have h3 := h.below b3 (Nat.le_refl _)
  clear c0 b2 k2 HK2 HH2 hb3
  have hl : (Instr.lookup 45 (.map (some bm)) (.string ⟨kk.toArray⟩) true).run Tryd.prog w3 = .ok (.tuple #[.agg #[.slice r0.ad r0.ps.length r0.cp, .int .i64 r0.st, .int .i64 r0.en], .bool true]) w3 := by
    have e : r0.key = kk := HK0.out.trans HKK.out
    subst e
    exact h3.2.1.look_yes hr0 hkl true
  have d4 := (Below.refl w3.heap.size w3).alloc (Nat.le_refl _) (.cells #[.slice r0.ad r0.ps.length r0.cp, .int .i64 r0.st, .int .i64 r0.en] 25)
  have h4 := h3.below d4 (Nat.le_refl _)
  have k4 := k3.below d4 (ltA k3)
  have o4 := AlBlk.new w3 r0.ad r0.ps.length r0.cp r0.st r0.en
  have m0 := h3.1.c0
  have b4 := b3.trans (d4.mono b3.size)
  have HM := Lib.hid (aMeet_any r0.ad a r0.ps.length r0.cp n c r0.st r0.en s e (w3.alloc (.cells #[.slice r0.ad r0.ps.length r0.cp, .int .i64 r0.st, .int .i64 r0.en] 25)))
  rw [hmt] at HM
  have e0 := k4.c0; have e1 := k4.c1; have e2 := k4.c2
  have hlt3 := ltA k3
  have HP := Lib.hid (And.intro b4 (And.intro h4 (And.intro k4 (And.intro o4 hlt3))))
  clear h4 b4 d4 h3 k3 b3 k4 o4 hmt hlt3
  go_wp2_with (go_at_call 21; refine HM.out.mono ?_; rintro r wm ⟨rfl, hbm⟩; refine Hid.out ?_)
  refine Lib.hid ?_
  obtain ⟨b4, h4, k4, o4, hlt3⟩ := HP.out
  have b5 := b4.trans (hbm.mono b4.size)
  have h5 := h4.below hbm (Nat.le_refl _)
  have k5 := k4.below hbm (ltA k4)
  have o5 := o4.below hbm (ltA o4)
  clear HP m0 hl e0 e1 e2 b4 h4 k4 o4 HM hbm
  have e1 := k5.c1; have f1 := k5.f 1
  have g1 := o5.c1
  have b6 := b5.setCell (p := ⟨w.heap.size, 1, none⟩) (Nat.le_refl _) (.int .i64 (min r0.st s))
  have k6 := k5.set1 (x := min r0.st s)
  have hne : sb ≠ w.heap.size ∧ bm ≠ w.heap.size := ⟨by have := ltA h.1; omega, by have := h.2.1.lt; omega⟩
  have h6 := h.below b6 (Nat.le_refl _)
  have HP := Lib.hid (And.intro b6 (And.intro h6 k6))
  clear b5 h5 k5 o5 b6 k6 h6 hne hlt3
  go_wp2_with fail
  obtain ⟨b4, h4, k4⟩ := HP.out
  clear HP e1 f1 g1
  generalize (wm.setCell ⟨w.heap.size, 1, none⟩ (.int .i64 (min r0.st s))) = w4 at *
  refine wp_region_any (by kernel_rfl) ?_
  change wpAny _ _ _ _ _ _ _ (World.drew _)
  have HO4 := Lib.hid (HO.out w4.drew b4.drew (min r0.st s))
  have hS : (fun w' : World => StBlk w' sb bm ∧ AlBlk w' w.heap.size a n c (min r0.st s) e) w4.drew := ⟨h4.1, k4⟩
  refine wpAny_of_held (S := fun w' => StBlk w' sb bm ∧ AlBlk w' w.heap.size a n c (min r0.st s) e) _ _ _ _ ?_
  refine wpAnyH_takeA (i := 0) (some 50) (v := ?_) rfl rfl (by as_aux_lemma => kernel_rfl) (by as_aux_lemma => kernel_rfl) (by as_aux_lemma => kernel_rfl) (fun _ _ _ h => h) (Or.inl ⟨by kernel_rfl, ?_⟩) hS ?_
  rotate_left
  · intro w hSw; have c0 := hSw.1.c0; have c1 := hSw.2.c0; have c2 := hSw.2.c1; have c3 := hSw.2.c2; go_simp
    first | done | with_reducible rfl
  refine wpAnyH_takeA (i := 1) (some 51) (v := ?_) rfl rfl (by as_aux_lemma => kernel_rfl) (by as_aux_lemma => kernel_rfl) (by as_aux_lemma => kernel_rfl) (fun _ _ _ h => h) (Or.inl ⟨by kernel_rfl, ?_⟩) hS ?_
  rotate_left
  · intro w hSw; have c0 := hSw.1.c0; have c1 := hSw.2.c0; have c2 := hSw.2.c1; have c3 := hSw.2.c2; go_simp
    first | done | with_reducible rfl
  refine wpAnyH_takeA (i := 2) (some 52) (v := ?_) rfl rfl (by as_aux_lemma => kernel_rfl) (by as_aux_lemma => kernel_rfl) (by as_aux_lemma => kernel_rfl) (fun _ _ _ h => h) (Or.inl ⟨by kernel_rfl, ?_⟩) hS ?_
  rotate_left
  · intro w hSw; have c0 := hSw.1.c0; have c1 := hSw.2.c0; have c2 := hSw.2.c1; have c3 := hSw.2.c2; go_simp
    first | done | with_reducible rfl
  refine wpAnyH_takeA (i := 3) (some 53) (v := ?_) rfl rfl (by as_aux_lemma => kernel_rfl) (by as_aux_lemma => kernel_rfl) (by as_aux_lemma => kernel_rfl) (fun _ _ _ h => h) (Or.inl ⟨by kernel_rfl, ?_⟩) hS ?_
  rotate_left
  · intro w hSw; have c0 := hSw.1.c0; have c1 := hSw.2.c0; have c2 := hSw.2.c1; have c3 := hSw.2.c2; go_simp
    first | done | with_reducible rfl
  refine wpAnyH_takeA (i := 4) (some 54) (v := ?_) rfl rfl (by as_aux_lemma => kernel_rfl) (by as_aux_lemma => kernel_rfl) (by as_aux_lemma => kernel_rfl) (fun _ _ _ h => h) (Or.inl ⟨by kernel_rfl, ?_⟩) hS ?_
  rotate_left
  · intro w hSw; have c0 := hSw.1.c0; have c1 := hSw.2.c0; have c2 := hSw.2.c1; have c3 := hSw.2.c2; go_simp
    first | done | with_reducible rfl
  refine wpAnyH_takeA (i := 5) (some 55) (v := ?_) rfl rfl (by as_aux_lemma => kernel_rfl) (by as_aux_lemma => kernel_rfl) (by as_aux_lemma => kernel_rfl) (fun _ _ _ h => h) (Or.inl ⟨by kernel_rfl, ?_⟩) hS ?_
  rotate_left
  · intro w hSw; have c0 := hSw.1.c0; have c1 := hSw.2.c0; have c2 := hSw.2.c1; have c3 := hSw.2.c2; go_simp
    first | done | with_reducible rfl
  refine wpAnyH_ready (rs := [6]) (by as_aux_lemma => kernel_rfl) (by simp) ?_
  refine AllReadyH.cons rfl (fun K hK => ?_) AllReadyH.nil
  go_simp
  go_wp2_with (go_at_call 22; refine HO4.out.mono ?_; rintro r w5 ⟨a', c', rfl, hown, hb5⟩)
  refine hK.out _ _ ?_ (fun hS => ?_)
  · exact ⟨hS.1.below hb5 (ltA hS.1), hS.2.below hb5 (ltA hS.2)⟩
  clear hK K
  refine wpAnyH_ready (rs := [7]) (by as_aux_lemma => kernel_rfl) (by simp) ?_
  refine AllReadyH.cons rfl (fun K hK => ?_) AllReadyH.nil
  obtain ⟨a5, c5, hv5, hat, -, hq⟩ := hown.form
  simp only [← HN.out, Value.slice.injEq, true_and] at hv5
  obtain ⟨rfl, rfl⟩ := hv5
  have hb5' : Below w4.heap.size w4 w5 := (Below.refl w4.heap.size w4).drew.trans hb5
  have h5 := h4.below hb5' (Nat.le_refl _)
  have hx : (⟨ps, (min r0.st s), e, a', c'⟩ : Rw).key = kk := HKK.out
  refine step_putR rfl _ _ _ rfl h5.2.1 ⟨ps, (min r0.st s), e, a', c'⟩ (by rw [hx]; exact hkl) (by unfold maxLen; omega) rfl (by rw [hx]; rfl) (by unfold Rw.val; rw [← HN.out]; rfl) ?_
  intro w6 hm6 hg6
  refine hK.out _ _ ⟨hS.1.kept hg6 (fun e => h4.ne (Option.some.inj e)), (hg6.block _ (ltA hS.2) (fun e => by have := Option.some.inj e; have := h.2.1.lt; omega)).trans hS.2⟩ (fun _ => ?_)
  clear hK K
  refine wpAnyH_done (by kernel_rfl) ?_ _
  have hgr : w.grownBy w6 (some bm) := (gOf (b4.trans (hb5'.mono b4.size)) (some bm)).andThen hg6 (fun j hj => .inr hj)
  have h6 : StAt w6 sb bm (putR ⟨ps, (min r0.st s), e, a', c'⟩ S) := h5.turn hg6 hm6 (fun r hr => (mem_putR hr).elim (fun e => .inr (by subst e; exact ⟨hat.turn hg6 h5.2.1, HE2.out⟩)) .inl)
  have HP := Lib.hid (And.intro hgr h6)
  have HQ : Hid (∀ q, a' = some q → w.heap.size ≤ q.block) := Lib.hid fun q e => Nat.le_trans b4.size (hq q e).1
  clear hgr h6 hS hat hq hown hb5 hb5' h5 hx hm6 hg6 HO4 HO b4 h4 k4
  go_simp
  go_wp2
  go_ret
  exact ⟨rfl, HP.out.1, _, HP.out.2, fun e => absurd rfl e, fun _ => ⟨a', c', rfl, HQ.out⟩⟩


/-- What Put of a store does. -/
theorem aPut_any (sb bm : Nat) (S : List Rw) (a : Option Addr) (c : Nat) (ps : List Pr) (s e : Int) (B : Nat) (w : World) (h : StAt w sb bm S) (hp : PairsAt w a ps) (hB : B ≤ w.heap.size) (hv : TabOk B w) (n : Nat) (hn : n = ps.length) (h64 : S.length ≤ 64) : Calls Tryd.prog 9 #[.pointer (some ⟨sb, 0, none⟩), .agg #[.slice a n c, .int .i64 s, .int .i64 e]] w (PutPost w sb bm S ps s e) := by
  by_cases hE : alE ps s e = 0
  · cases hf : S.find? (fun r => r.key == keyL ps) with
    | none =>
      have hno : ∀ r ∈ S, r.key ≠ keyL ps := fun r hr e => by simpa [e] using List.find?_eq_none.1 hf r hr
      by_cases h6 : 64 ≤ S.length
      · exact aPut_full sb bm S a c ps s e B w h hp hB hv n hn hE hno h6
      · exact aPut_new sb bm S a c ps s e B w h hp hB hv n hn hE hno h6
    | some r0 =>
      have hr0 := List.mem_of_find?_eq_some hf
      have hk0 : r0.key = keyL ps := by simpa using List.find?_some hf
      cases hm : meetP r0.st r0.en s e with
      | true => exact aPut_meet sb bm S a c ps s e B w h hp hB hv n hn hE h64 r0 hr0 hk0 hm
      | false => exact aPut_apart sb bm S a c ps s e B w h hp hB hv n hn hE h64 r0 hr0 hk0 hm
  · exact aPut_err sb bm S a c ps s e w h hp n hn hE

end Go.Proofs.YtdnpfmmkglgnjabDoor
